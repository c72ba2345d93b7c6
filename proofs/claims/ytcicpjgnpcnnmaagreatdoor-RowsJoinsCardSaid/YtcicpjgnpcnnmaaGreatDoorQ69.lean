import Derived.Test.YtcicpjgnpcnnmaaGreatDoorQ67
set_option maxRecDepth 100000
set_option maxHeartbeats 32000000
set_option linter.unusedSimpArgs false
set_option linter.unusedVariables false
namespace Go.Proofs.YtcicpjgnpcnnmaaGreatDoor
open Go.RowKit
open SC (VBox)
structure ES(w wr:World)(g:Nat)(c0 c1 c2 c3 c4 c5 c6:Value)(o:Value)(l:List BV.V):Prop where
 own:OwnV wr (g+2) o l
 box:B7 wr g c0 c1 c2 c3 c4 c5 c6
 res:VBox wr (g+1) zW
 bel:Below w.heap.size w wr
 wg:w.heap.size≤g
section
variable {w wr w' : World} {g : Nat} {c0 c1 c2 c3 c4 c5 c6 : Value} {o : Value} {l : List BV.V}
theorem ES.later(h:ES w wr g c0 c1 c2 c3 c4 c5 c6 o l)(hb:Below wr.heap.size wr w'):ES w w' g c0 c1 c2 c3 c4 c5 c6 o l :=
 ⟨h.own.later hb,h.box.later hb,h.res.later hb,bthen h.bel hb,h.wg⟩
theorem ES.gl(h:ES w wr g c0 c1 c2 c3 c4 c5 c6 o l):g+1 < wr.heap.size:=(Array.getElem?_eq_some_iff.1 h.res).1
theorem row1(W:World)(v:BV.V):BV.RowAt (W.alloc (.cells #[.int .i64 v.k,.int .i64 v.i,.string v.s] 26)) (W.alloc (.cells #[.int .i64 v.k,.int .i64 v.i,.string v.s] 26)).heap.size (some ⟨W.heap.size,0,none⟩) [v]:=fun _=>by
 obtain⟨a0,a1,a2⟩:=(VBox.made W v).cells;refine⟨W.heap.size,0,rfl,by simp,fun j hj => ?_⟩
 obtain rfl:j=0:=by simpa using hj
 exact⟨a0,a1,a2⟩
theorem ES.app(h:ES w wr g c0 c1 c2 c3 c4 c5 c6 o l)(v:BV.V)(hm:l.length≤100000) :
  ∃ v' w',(Builtin.append_ #[38,38] 38 #[o,.slice (some ⟨wr.heap.size,0,none⟩) 1 1]).run Tryz.prog (wr.alloc (.cells #[.int .i64 v.k,.int .i64 v.i,.string v.s] 26)) = .ok v' w'∧Hid (ES w w' g c0 c1 c2 c3 c4 c5 c6 v' (l ++ [v])):=by
 have hlt:=h.gl;have ha:=(Below.refl wr.heap.size wr).alloc (Nat.le_refl _) (.cells #[.int .i64 v.k,.int .i64 v.i,.string v.s] 26);obtain⟨v',w',h1,h2,h3,-⟩:=ownV_app 38 38 Tryz.underlying38 (h.own.alloc _) [v] _ 1 (row1 wr v) (by simp;omega) (by simp;omega)
 have hblk:∀ k,k≤g+1→w'.heap[k]? = wr.heap[k]? := fun k hk=>by
  rw[h3.block k (by simp;omega) (fun e=>by have:=(h.own.block e.symm).1;omega)]
  exact ha.block k (by omega)
 exact⟨v',w',h1,Hi ⟨h2,h.box.same (hblk g (by omega)),(hblk (g+1) (Nat.le_refl _)).trans h.res,(ownV_below ((bthen h.bel ha)) (World.ownsRow.mono (h.own.alloc _) (show w.heap.size≤g+2 by have:=h.wg;omega)) h3 (by have:=h.bel.size;simp;omega)),h.wg⟩⟩
theorem ES.shape(h:ES w wr g c0 c1 c2 c3 c4 c5 c6 o l)(h0:0 < l.length):∃ b c,o = .slice (some ⟨b,0,none⟩) l.length c∧l.length≤c∧c≤maxLen∧g+2≤b∧b < wr.heap.size∧BV.RowAt wr wr.heap.size (some ⟨b,0,none⟩) l∧∀ j (hj:j < l.length),BV.CellsAt wr b (j*3) l[j]:=by
 obtain⟨A,c,rfl,hc,hm,hr⟩:=h.own.row;rcases h.own.2 with ⟨hv,h1⟩ | ⟨b,cap,cur,hv,hb,hg,-⟩
 ·exact absurd h1 (by simpa using Nat.pos_iff_ne_zero.1 h0)
 ·injection hv with e1 e2 e3
  subst e1 e3;obtain⟨b',off,e,hlt,hcs⟩:=hr h0
  injection e with e
  injection e with e4 e5 e6
  subst e4 e5;exact⟨_,_,rfl,hc,hm,hb,hlt,hr,fun j hj=>by have:=hcs j hj;rwa [Nat.zero_add]at this⟩
end
theorem opP_lits(d:Deeds)(n:List UInt8)(v:Vl)(r vs:List BV.V):opP d wLit n v r vs=(0,toV v):=by rw[opP,if_pos rfl]
theorem opP_atIn{d:Deeds}{n:List UInt8}{v:Vl}{r vs:List BV.V}(h1:0≤v.i)(h2:v.i < r.length):∃ h:v.i.toNat < r.length,opP d wAt n v r vs=(0,r[v.i.toNat]):=by
 have h:v.i.toNat < r.length:=by omega
 refine⟨h,?_⟩;rw[opP,if_neg (by decide),if_pos rfl,atP,if_pos ⟨h1,h2⟩]
 simp[List.getD_eq_getElem?_getD,List.getElem?_eq_getElem h]
theorem lenV1{l:List BV.V}(h:l.length=1):∃ a,l = [a]:=by
 match l,h with
 | [a],_=>exact⟨a,rfl⟩
theorem lenV2{l:List BV.V}(h:l.length=2):∃ a b,l = [a,b]:=by
 match l,h with
 | [a,b],_=>exact⟨a,b,rfl⟩
theorem lenV3{l:List BV.V}(h:l.length=3):∃ a b c,l = [a,b,c]:=by
 match l,h with
 | [a,b,c],_=>exact⟨a,b,c,rfl⟩
theorem lenC{l:List BV.V}(h:2≤l.length):∃ a m,l=a::m∧1≤m.length:=by
 match l,h with
 | a::m,h=>exact⟨a,m,rfl,by simpa using h⟩
theorem lenEL(l:List E):l.length≤E.sizeL l:=by
 induction l with
 | nil=>simp
 | cons x l ih=>cases x;simp only[List.length_cons,E.sizeL,E.size];omega
theorem size_in{l:List E}{p:E}(h:p∈l):p.size≤E.sizeL l:=by
 induction l with
 | nil=>simp at h
 | cons x l ih =>
  simp only[E.sizeL];rcases List.mem_cons.1 h with rfl | h
  ·omega
  ·have:=ih h;omega
theorem rEval_any(r:List BV.V)(hr5:r.length≤100000)(e:E) :
  e.good r.length=true→e.size≤900→∀ (x:Value) (S:Nat→Prop) (w:World) (A:Option Addr) (c:Nat),EAt S w e x→BV.RowAt w w.heap.size A r→e.fit deedP r→Calls Tryz.prog 38 #[x,.slice A r.length c] w (VR w (e.ev deedP r).2 (e.ev deedP r).1):=by
 induction e using E.ind with
 | h o v t n l ih =>
  rintro hgood hsz x S w A c ⟨A',c',rfl,hsub⟩ hr ⟨hl2,hvi,hfit⟩;obtain⟨hlc,hcm,hmem⟩:=hsub;have hgl:=good_parts hgood;have hl9:l.length≤900:=by have:=lenEL l;simp only[E.size]at hsz;omega
  have hfx:=fitL_iff.1 hfit;have HI:=Hi (fun(k:Nat) (hk:k < l.length) (x:Value) (S:Nat→Prop) (w:World) (hx:EAt S w l[k] x) (hr:BV.RowAt w w.heap.size A r)=>ih l[k] (List.getElem_mem hk) (hgl _ (List.getElem_mem hk)) (by have:=size_in (List.getElem_mem hk);simp only[E.size]at hsz;omega) x S w A c hx hr (hfx l[k] (List.getElem_mem hk)).1)
  have HSO:=Hi (good_sort hgood)
  have HOK:Hid ((∀ j (hj:j < l.length),(l[j].ev deedP r).1=0)→(E.mk o v t n l).ev deedP r=opP deedP o n v r (l.map fun x=>(x.ev deedP r).2)):=fun h=>by
   have h0:(E.evL deedP r l).1=0:=evL_ok.2 fun x hx=>by
    obtain⟨j,hj,rfl⟩:=List.getElem_of_mem hx;exact h j hj
   rw[E.ev,if_pos h0,evL_vals h0]
  have HERR:Hid (∀ k (hk:k < l.length),(∀ j (hj:j < l.length),j < k→(l[j].ev deedP r).1=0)→¬(l[k].ev deedP r).1=0→(E.mk o v t n l).ev deedP r=((l[k].ev deedP r).1,zW)):=fun k hk h0 h=>by
   have h1:=evL_first (d:=deedP) (r:=r) k hk h0 h;rw[E.ev,if_neg (by rw[h1];exact h),h1]
  generalize (E.mk o v t n l).ev deedP r=fin at *;obtain⟨fe,fv⟩:=fin;generalize hys:(l.map fun x=>(x.ev deedP r).2)=ys at *
  have hyl:l.length=ys.length:=by rw[←hys,List.length_map]
  have HYS:Hid (∀ k (hk:k < l.length) (hk':k < ys.length),ys[k]=(l[k].ev deedP r).2):=fun k hk hk'=>by subst hys;simp
  have HYF:Hid (∀ u∈ys,I64 u∧u.s.size≤100000000):=fun u hu=>by
   subst hys;obtain⟨x,hx,rfl⟩:=List.mem_map.1 hu;exact(hfx x hx).2
  obtain⟨bo,hbo⟩:∃ b,b=str o:=⟨_,rfl⟩;have HBO:=Hi hbo;obtain⟨bn,hbn⟩:∃ b,b=str n:=⟨_,rfl⟩;have HBN:=Hi hbn;obtain⟨bs,hbs⟩:∃ b,b=str v.s:=⟨_,rfl⟩;have HBS:=Hi hbs;simp only[E.op,E.v,E.tb,E.nm,E.l,eVal];rw[←hbo,←hbn,←hbs];generalize str t=bt at *;obtain⟨vk,hvk⟩:∃ b,b=v.k:=⟨_,rfl⟩;have HVK:=Hi hvk;obtain⟨vi,hvi'⟩:∃ b,b=v.i:=⟨_,rfl⟩;have HVI:=Hi hvi';rw[←hvk,←hvi'];have q0:=B7.made w (.string bo) (.int .i64 vk) (.int .i64 vi) (.string bs) (.string bt) (.string bn) (.slice A' l.length c');have hb0:=(Below.refl w.heap.size w).alloc (Nat.le_refl _) (.cells #[.string bo,.int .i64 vk,.int .i64 vi,.string bs,.string bt,.string bn,.slice A' l.length c'] 29);have z0:(w.alloc (.cells #[.string bo,.int .i64 vk,.int .i64 vi,.string bs,.string bt,.string bn,.slice A' l.length c'] 29)).heap.size=w.heap.size+1:=by simp
  obtain⟨W1,hW1⟩:∃ W1:World,W1=(w.alloc (.cells #[.string bo,.int .i64 vk,.int .i64 vi,.string bs,.string bt,.string bn,.slice A' l.length c'] 29)).alloc (.cells #[.int .i64 0,.int .i64 0,.string ⟨#[]⟩] 26):=⟨_,rfl⟩;generalize hWz:w.alloc (.cells #[.string bo,.int .i64 vk,.int .i64 vi,.string bs,.string bt,.string bn,.slice A' l.length c'] 29)=Wz at q0 hb0 z0;have hW1':W1=Wz.alloc (.cells #[.int .i64 0,.int .i64 0,.string ⟨#[]⟩] 26):=by rw[←hWz];exact hW1
  have hb1:Below Wz.heap.size Wz W1:=by rw[hW1'];exact bel_allocE (Below.refl _ _) _
  have v1:VBox W1 (w.heap.size+1) zW:=by rw[hW1',←z0];exact raw0
  have J1:Hid (ES w W1 w.heap.size (.string bo) (.int .i64 vk) (.int .i64 vi) (.string bs) (.string bt) (.string bn) (.slice A' l.length c') (.slice none 0 0) (ys.take 0)):=Hi ⟨by simpa using OwnV.nil W1 (w.heap.size+2),q0.later hb1,v1,bthen hb0 hb1,Nat.le_refl _⟩
  have HM:=Hi hmem;have HR:=Hi hr;have HW1:=Hi hW1;have HYL:=Hi hyl;have HL9:=Hi hl9;have HR5:=Hi hr5;obtain⟨x0,x1,x2,x3,x4,x5,x6⟩:=(q0.later hb1).cells;clear ih hmem hr hl2 hfit hfx hlc hcm hb0 z0 q0 hb1 v1 hyl hys hvi hgl hsz hbo hbn hbs hvk hvi' hWz hW1 hW1' hgood;go_enter Tryz.func38,Tryz.ntmps38
  go_wp2_with (rw[←HW1.out])
  go_loopw [17,6] (fun iv ov wr=>∃ (k:Nat) (lv:Value),lv=ov∧k≤l.length∧iv = .int .i64 k∧Hid (∀ j (hj:j < l.length),j < k→(l[j].ev deedP r).1=0)∧Hid (ES w wr w.heap.size (.string bo) (.int .i64 vk) (.int .i64 vi) (.string bs) (.string bt) (.string bn) (.slice A' l.length c') lv (ys.take k))) (fun iv _ _=>l.length - (intOf iv).toNat)
  case atStart=>exact⟨0,_,rfl,Nat.zero_le _,rfl,Hi (fun j hj h=>absurd h (Nat.not_lt_zero _)),J1⟩
  case round =>
   obtain⟨k,lv,rfl,hk,rfl,HK,JK⟩:=hrel
   by_cases hlt:k < l.length
   ·obtain⟨g,off,rfl,hS,hg,hl⟩:=HM.out (by omega)
    obtain⟨A2,c2,⟨g0,g1,g2,g3,g4,g5,g6⟩,hs⟩:=hl.get k hlt;have hkz:(k:Int) < (l.length:Int):=by omega
    have hky:k < ys.length:=by have:=HYL.out;omega
    have i0:=(JK.out.bel.cell (p:=⟨g,off+k*7,none⟩) hg).trans g0;have i1:=(JK.out.bel.cell (p:=⟨g,off+k*7+1,none⟩) hg).trans g1;have i2:=(JK.out.bel.cell (p:=⟨g,off+k*7+2,none⟩) hg).trans g2;have i3:=(JK.out.bel.cell (p:=⟨g,off+k*7+3,none⟩) hg).trans g3;have i4:=(JK.out.bel.cell (p:=⟨g,off+k*7+4,none⟩) hg).trans g4;have i5:=(JK.out.bel.cell (p:=⟨g,off+k*7+5,none⟩) hg).trans g5;have i6:=(JK.out.bel.cell (p:=⟨g,off+k*7+6,none⟩) hg).trans g6;obtain⟨Wa,Wb,hWa,hWb,b1,b2,hz,hb1,hb2⟩:=made7 wr (.string (str l[k].op)) (.int .i64 l[k].v.k) (.int .i64 l[k].v.i) (.string (str l[k].v.s)) (.string (str l[k].tb)) (.string (str l[k].nm)) (.slice A2 l[k].l.length c2);obtain⟨f10,f11,f12,f13,f14,f15,f16⟩:=b1.free;obtain⟨y10,y11,y12,y13,y14,y15,y16⟩:=b2.cells;obtain⟨p10,p11,p12,p13,p14,p15,p16⟩:=b1.cells;have hBb:=bthen JK.out.bel hb2
    have hE:EAt S Wb l[k] (eVal l[k].op l[k].v l[k].tb l[k].nm (.slice A2 l[k].l.length c2)):=by
     have h0:EAt S w l[k] (eVal l[k].op l[k].v l[k].tb l[k].nm (.slice A2 l[k].l.length c2)):=⟨A2,c2,rfl,hs⟩;exact h0.later hBb
    have HC:=Hi (HI.out k hlt _ S Wb hE (HR.out.later hBb));have JB:=Hi (JK.out.later hb2);have HWa:=Hi hWa;have HWb:=Hi hWb;have HTN:=Hi (take_next hky);have HYK:=Hi (HYS.out k hlt hky);have HTL:Hid ((ys.take k).length≤100000):=Hi (by rw[List.length_take];have:=HL9.out;have:=HYL.out;omega)
    have HER:=Hi (fun h=>HERR.out k hlt HK.out h)
    have HNX:Hid ((l[k].ev deedP r).1=0→Hid (∀ j (hj:j < l.length),j < k+1→(l[j].ev deedP r).1=0)):=fun h=>Hi fun j hj hjk=>by
     rcases Nat.lt_or_ge j k with h' | h'
     ·exact HK.out j hj h'
     ·obtain rfl:j=k:=by omega
      exact h
    unfold eVal VR at HC;rw[HYK.out]at HTN;generalize str l[k].op=bo' at *;generalize str l[k].tb=bt' at *;generalize str l[k].nm=bn' at *;generalize str l[k].v.s=bs' at *;generalize l[k].v.k=vk' at *;generalize l[k].v.i=vi' at *;generalize l[k].l.length=ln' at *;generalize l[k].ev deedP r=an at *;obtain⟨er,uk,ui,us⟩:=an;simp only at HC HER HNX HTN;clear hWa hWb hs hl hE g0 g1 g2 g3 g4 g5 g6 b1 b2 hb1 hb2 HI HM hBb hky HYK x0 x1 x2 x3 x4 x5 x6 JK J1 hz
    go_wp2_with (first | (rw[←HWb.out]) | (rw[←HWa.out]))
    refine(HC.out).mono ?_;rintro q w3 ⟨rfl,b3⟩;obtain⟨W4,hW4⟩:∃ W4:World,W4=w3.alloc (.cells #[.int .i64 uk,.int .i64 ui,.string us] 26):=⟨_,rfl⟩;have b4:Below w3.heap.size w3 W4:=by rw[hW4];exact bel_allocE (Below.refl _ _) _
    have v4:VBox W4 w3.heap.size ⟨uk,ui,us⟩:=by rw[hW4];exact VBox.made w3 ⟨uk,ui,us⟩
    obtain⟨m0,m1,m2⟩:=v4.cells;have J4:=Hi (JB.out.later (bthen b3 b4));have HW4:=Hi hW4;dsimp only at m0 m1 m2;clear b3 b4 v4 hW4 HC y10 y11 y12 y13 y14 y15 y16 p10 p11 p12 p13 p14 p15 p16 f10 f11 f12 f13 f14 f15 f16 i0 i1 i2 i3 i4 i5 i6 HWa HWb JB
    by_cases her:er=0
    ·subst her
     have HNX':=HNX.out rfl;obtain⟨v',w',hrun,J6⟩:=J4.out.app ⟨uk,ui,us⟩ HTL.out;rw[←HTN.out]at J6;dsimp only at hrun;clear HNX HER J4
     go_wp2_with (first | (rw[←HW4.out]) | (at_builtin;refine Lib.wpList_append_run_sl _ rfl _ _ 38 rfl _ _ rfl rfl hrun ?_))
     go_roundw
     case rel=>exact⟨k+1,_,rfl,by omega,by go_num,HNX',J6⟩
     case measure=>simp[intOf];omega
    ·have her':(er != 0)=true:=by simpa using her
     have HER':=Hi (HER.out her);obtain⟨g0,g1,g2⟩:=J4.out.res.cells;obtain⟨f0,f1,f2⟩:=J4.out.res.free;simp only[zW]at g0 g1 g2;clear HNX HER
     go_wp2_with (rw[←HW4.out])
     exact bodyPost_ret (v:= .tuple #[.agg #[.int .i64 0,.int .i64 0,.string ⟨#[]⟩],.int .i64 er]) (by simp[results,Tryz.results38,go_sem,g0,g1,g2]) rfl (by have h:=HER'.out;unfold zW at h;cases h;exact⟨rfl,vset3 J4.out.bel (by omega) _ _ _⟩)
   ·obtain rfl:k=l.length:=by omega
    have hkz:¬(l.length:Int) < (l.length:Int):=by omega
    have hj:=JK.out;rw[List.take_of_length_le (by have:=HYL.out;omega)]at hj
    have J2:=Hi hj;have HFIN:=Hi (HOK.out fun j hj'=>HK.out j hj' hj')
    obtain⟨y0,y1,y2,y3,y4,y5,y6⟩:=hj.box.cells;obtain⟨z0,z1,z2⟩:=hj.res.cells;obtain⟨f0,f1,f2⟩:=hj.res.free;simp only[zW]at z0 z1 z2;have HGL:Hid (w.heap.size+1 < wr.heap.size):=Hi hj.gl;clear hj JK HK HI HM HERR HOK HYS x0 x1 x2 x3 x4 x5 x6 J1;rcases HSO.out with ⟨ho,hl0⟩ | ⟨ho,hl0,h1,h2⟩ | ⟨ho⟩ | ⟨ho,hl0⟩ | ⟨ho,hl0⟩ | ⟨ho,hl0⟩ | ⟨ho,hl0⟩
    ·subst ho
     rw[opP_lits]at HFIN;have hf:=HFIN.out;cases hf;have hq:bo=⟨#[108,105,116]⟩:=HBO.out;subst hq;have hb2:=HBS.out;have hb3:=HVK.out;have hb4:=HVI.out;clear HFIN HSO HYF HR;subst hb2 hb3 hb4;go_wp2_with fail;exact bodyPost_ret (v:= .tuple #[.agg #[.int .i64 v.k,.int .i64 v.i,.string (str v.s)],.int .i64 0]) (by simp[results,Tryz.results38,go_sem,z0,z1,z2]) rfl ⟨rfl,vset3 J2.out.bel (by omega) _ _ _⟩
    ·subst ho
     obtain⟨hlt2,hat⟩:=opP_atIn (d:=deedP) (n:=n) (vs:=ys) h1 h2;rw[hat]at HFIN;have hf:=HFIN.out;cases hf;have hq:bo=⟨#[97,116]⟩:=HBO.out;subst hq;have hvi0:¬vi < 0:=by rw[HVI.out];omega
     have hvi1:¬vi≥(r.length:Int):=by rw[HVI.out];omega
     have hvi2:vi < (r.length:Int):=by rw[HVI.out];omega
     have hvi3:0≤vi:=by rw[HVI.out];omega
     obtain⟨b,off,rfl,hblt,hcs⟩:=HR.out (by omega)
     obtain⟨d0,d1,d2⟩:=hcs v.i.toNat hlt2;obtain⟨j,hj⟩:∃ j,j=v.i.toNat:=⟨_,rfl⟩;have hjv:vi=(j:Int):=by rw[hj,HVI.out];omega
     have HJ:=Hi hj;have hrj:∃ h:j < r.length,r[v.i.toNat]=r[j]:=⟨by omega,by simp only[hj]⟩
     obtain⟨hjr,hrj⟩:=hrj;have HRJ:=Hi hrj;rw[hrj]at d0 d1 d2;simp only[←hj]at d0 d1 d2;have d0:=(J2.out.bel.cell (p:=⟨b,_,none⟩) hblt).trans d0;have d1:=(J2.out.bel.cell (p:=⟨b,_,none⟩) hblt).trans d1;have d2:=(J2.out.bel.cell (p:=⟨b,_,none⟩) hblt).trans d2;subst hjv;have hjz:¬(j:Int) < 0:=by omega
     generalize r[j]=rv at *;clear HFIN HSO HYF HR hcs hat hj hrj;go_wp2_with fail;exact bodyPost_ret (v:= .tuple #[.agg #[.int .i64 rv.k,.int .i64 rv.i,.string rv.s],.int .i64 0]) (by simp[results,Tryz.results38,go_sem,z0,z1,z2]) rfl ⟨by rw[HRJ.out],vset3 J2.out.bel (by omega) _ _ _⟩
    ·subst ho
     rw[opP_word (by decide) (by decide),dp_wCall]at HFIN
     have hq:bo=⟨#[99,97,108,108]⟩:=HBO.out;subst hq;obtain⟨A3,c3,rfl,hc3,-,hr3⟩:=J2.out.own.row;have HC:=Hi (rCall_any n ys A3 c3 wr hr3 (by have:=HYL.out;have:=HL9.out;omega) HYF.out)
     rw[←HBN.out]at HC;rw[←HFIN.out]at HC;unfold VR at HC;dsimp only at HC;clear HFIN HSO HYF HR hr3;generalize ys.length=m at *;go_wp2_with fail;refine(HC.out).mono ?_;rintro q w5 ⟨rfl,b5⟩;have J5:=Hi (J2.out.later b5);obtain⟨g0,g1,g2⟩:=J5.out.res.cells;obtain⟨k0,k1,k2⟩:=J5.out.res.free;simp only[zW]at g0 g1 g2;clear b5 HC;go_wp2_with fail;exact bodyPost_ret (v:= .tuple #[.agg #[.int .i64 fv.k,.int .i64 fv.i,.string fv.s],.int .i64 fe]) (by simp[results,Tryz.results38,go_sem,g0,g1,g2]) rfl ⟨rfl,vset3 J5.out.bel (by omega) _ _ _⟩
    ·obtain⟨n1,n2,n3⟩:=ops1_not ho
     rw[opP_word n1 n2]at HFIN;have e1:=word_ne n1;have e2:=word_ne n2;have e3:=word_ne n3;rw[←HBO.out]at e1 e2 e3;unfold wLit at e1;unfold wAt at e2;unfold wCall at e3;obtain⟨b,cb,rfl,hcb,-,hgb,hbl,hrow,hcs⟩:=J2.out.shape (by rw[HYL.out]at hl0;omega)
     have HBL:=Hi hbl;have HBN2:Hid (b≠w.heap.size+1):=Hi (by omega)
     obtain⟨u,rfl⟩:=lenV1 (HYL.out.symm.trans hl0);have hu:=HYF.out u (by simp)
     have HX:=Hi (fun W=>r1_any o n u W ho hu.1)
     rw[←HBO.out,←HFIN.out]at HX;unfold VR at HX;dsimp only at HX;have HR0:Hid (BV.CellsAt wr b 0 u):=Hi (by simpa using hcs 0 (by simp))
     obtain⟨d0,d1,d2⟩:=HR0.out;clear HFIN HSO HYF HR hrow hcs hbl hgb n1 n2 n3 ho hu;simp only[List.length_cons,List.length_nil,Nat.zero_add]at hcb ⊢;go_wp2_with fail;clear y0 y1 y2 y3 y4 y5 y6 d0 d1 d2;have KP:Hid (∀ w',Bx (w.heap.size+1) wr w'→(Bx (w.heap.size+1) wr w'∧w'.cell? ⟨w.heap.size,0,none⟩=some (.string bo)∧w'.cell? ⟨b,0,none⟩=some (.int .i64 u.k)∧w'.cell? ⟨b,1,none⟩=some (.int .i64 u.i)∧w'.cell? ⟨b,2,none⟩=some (.string u.s)∧True)):=Hi fun w' hb=>⟨hb,((hb.cell (by have:=HGL.out;omega) (by omega)).trans J2.out.box.cells.1),((hb.cell HBL.out HBN2.out).trans HR0.out.1),((hb.cell HBL.out HBN2.out).trans HR0.out.2.1),((hb.cell HBL.out HBN2.out).trans HR0.out.2.2),trivial⟩
     have BB:=Hi (Bx.of (H:=w.heap.size+1) (Below.refl wr.heap.size wr));have SS:=Hi (KP.out wr BB.out)
     go_region_held3 (fun w'=>Bx (w.heap.size+1) wr w'∧w'.cell? ⟨w.heap.size,0,none⟩=some (.string bo)∧w'.cell? ⟨b,0,none⟩=some (.int .i64 u.k)∧w'.cell? ⟨b,1,none⟩=some (.int .i64 u.i)∧w'.cell? ⟨b,2,none⟩=some (.string u.s)∧True) ((refine KP.out _ ?_;(repeat(first | with_reducible exact BB.out | with_reducible refine Bx.drew ?_ | with_reducible refine Bx.alloc ?_ _ | with_reducible refine Bx.set ?_ _ _)))) ((first
      | (go_at_call 64;(with_reducible refine(HX.out _).mono ?_;rintro r w8 ⟨rfl,b8⟩;have B0:=Hi (bthA (bel_drewE (Below.refl _ wr)) b8);have BB:=Hi (Bx.of (H:=w.heap.size+1) B0.out);have J5:=Hi (J2.out.later B0.out);obtain⟨g0,g1,g2⟩:=J5.out.res.cells;obtain⟨k0,k1,k2⟩:=J5.out.res.free;simp only[zW]at g0 g1 g2;clear b8))))
     all_goals go_wp2_with fail
     all_goals exact bodyPost_ret (v:= .tuple #[.agg #[.int .i64 fv.k,.int .i64 fv.i,.string fv.s],.int .i64 fe]) (by simp[results,Tryz.results38,go_sem,g0,g1,g2]) rfl ⟨rfl,vset3 J5.out.bel (by omega) _ _ _⟩
    ·obtain⟨n1,n2,n3,n4⟩:=ops2_not ho
     rw[opP_word n1 n2]at HFIN;have e1:=word_ne n1;have e2:=word_ne n2;have e3:=word_ne n3;have e4:=word_ne n4;rw[←HBO.out]at e1 e2 e3 e4;unfold wLit at e1;unfold wAt at e2;unfold wCall at e3;unfold wIn at e4;have e5:(bo.toList != [105,110])=true:=by simp only[bne,e4];rfl
     obtain⟨b,cb,rfl,hcb,-,hgb,hbl,hrow,hcs⟩:=J2.out.shape (by rw[HYL.out]at hl0;omega)
     have HBL:=Hi hbl;have HBN2:Hid (b≠w.heap.size+1):=Hi (by omega)
     obtain⟨u,x,rfl⟩:=lenV2 (HYL.out.symm.trans hl0);have hu:=HYF.out u (by simp)
     have hx:=HYF.out x (by simp)
     have HX:=Hi (fun W=>r2_any o n u x W ho hu.1 hx.1 hu.2 hx.2)
     rw[←HBO.out,←HFIN.out]at HX;unfold VR at HX;dsimp only at HX;have HR0:Hid (BV.CellsAt wr b 0 u):=Hi (by simpa using hcs 0 (by simp))
     have HR1:Hid (BV.CellsAt wr b 3 x):=Hi (by simpa using hcs 1 (by simp))
     obtain⟨d0,d1,d2⟩:=HR0.out;obtain⟨d3,d4,d5⟩:=HR1.out;clear HFIN HSO HYF HR hrow hcs hbl hgb n1 n2 n3 n4 ho hu hx;simp only[List.length_cons,List.length_nil,Nat.zero_add,Nat.reduceAdd]at hcb ⊢;go_wp2_with fail;clear y0 y1 y2 y3 y4 y5 y6 d0 d1 d2 d3 d4 d5;have KP:Hid (∀ w',Bx (w.heap.size+1) wr w'→(Bx (w.heap.size+1) wr w'∧w'.cell? ⟨w.heap.size,0,none⟩=some (.string bo)∧w'.cell? ⟨b,0,none⟩=some (.int .i64 u.k)∧w'.cell? ⟨b,1,none⟩=some (.int .i64 u.i)∧w'.cell? ⟨b,2,none⟩=some (.string u.s)∧w'.cell? ⟨b,3,none⟩=some (.int .i64 x.k)∧w'.cell? ⟨b,4,none⟩=some (.int .i64 x.i)∧w'.cell? ⟨b,5,none⟩=some (.string x.s)∧True)):=Hi fun w' hb=>⟨hb,((hb.cell (by have:=HGL.out;omega) (by omega)).trans J2.out.box.cells.1),((hb.cell HBL.out HBN2.out).trans HR0.out.1),((hb.cell HBL.out HBN2.out).trans HR0.out.2.1),((hb.cell HBL.out HBN2.out).trans HR0.out.2.2),((hb.cell HBL.out HBN2.out).trans HR1.out.1),((hb.cell HBL.out HBN2.out).trans HR1.out.2.1),((hb.cell HBL.out HBN2.out).trans HR1.out.2.2),trivial⟩
     have BB:=Hi (Bx.of (H:=w.heap.size+1) (Below.refl wr.heap.size wr));have SS:=Hi (KP.out wr BB.out)
     go_region_held3 (fun w'=>Bx (w.heap.size+1) wr w'∧w'.cell? ⟨w.heap.size,0,none⟩=some (.string bo)∧w'.cell? ⟨b,0,none⟩=some (.int .i64 u.k)∧w'.cell? ⟨b,1,none⟩=some (.int .i64 u.i)∧w'.cell? ⟨b,2,none⟩=some (.string u.s)∧w'.cell? ⟨b,3,none⟩=some (.int .i64 x.k)∧w'.cell? ⟨b,4,none⟩=some (.int .i64 x.i)∧w'.cell? ⟨b,5,none⟩=some (.string x.s)∧True) ((refine KP.out _ ?_;(repeat(first | with_reducible exact BB.out | with_reducible refine Bx.drew ?_ | with_reducible refine Bx.alloc ?_ _ | with_reducible refine Bx.set ?_ _ _)))) ((first
      | (go_at_call 65;(with_reducible refine(HX.out _).mono ?_;rintro r w8 ⟨rfl,b8⟩;have B0:=Hi (bthA (bel_drewE (Below.refl _ wr)) b8);have BB:=Hi (Bx.of (H:=w.heap.size+1) B0.out);have J5:=Hi (J2.out.later B0.out);obtain⟨g0,g1,g2⟩:=J5.out.res.cells;obtain⟨k0,k1,k2⟩:=J5.out.res.free;simp only[zW]at g0 g1 g2;clear b8))))
     all_goals go_wp2_with fail
     all_goals exact bodyPost_ret (v:= .tuple #[.agg #[.int .i64 fv.k,.int .i64 fv.i,.string fv.s],.int .i64 fe]) (by simp[results,Tryz.results38,go_sem,g0,g1,g2]) rfl ⟨rfl,vset3 J5.out.bel (by omega) _ _ _⟩
    ·subst ho
     rw[opP_word (by decide) (by decide),dp_wBetween]at HFIN
     have hq:bo=⟨#[98,101,116,119,101,101,110]⟩:=HBO.out;subst hq;obtain⟨b,cb,rfl,hcb,-,hgb,hbl,hrow,hcs⟩:=J2.out.shape (by rw[HYL.out]at hl0;omega)
     have HBL:=Hi hbl;have HBN2:Hid (b≠w.heap.size+1):=Hi (by omega)
     obtain⟨u,x,y,rfl⟩:=lenV3 (HYL.out.symm.trans hl0);have HR0:Hid (BV.CellsAt wr b 0 u):=Hi (by simpa using hcs 0 (by simp))
     have HR1:Hid (BV.CellsAt wr b 3 x):=Hi (by simpa using hcs 1 (by simp))
     have HR2:Hid (BV.CellsAt wr b 6 y):=Hi (by simpa using hcs 2 (by simp))
     have H1:=Hi (fun W=>LG.rrel_any bGe u x W)
     have H2:=Hi (fun W=>LG.rrel_any bLe u y W)
     have H3:=Hi (fun h W (hA:SC.Args W h [LG.relR bGe u x,LG.relR bLe u y])=>LG.rand_any [LG.relR bGe u x,LG.relR bLe u y] _ 2 W hA.row (by simp))
     unfold bGe at H1;unfold bLe at H2;have hd:three3 dBetween [u,x,y]=if LG.relE bGe u x≠0 then (LG.relE bGe u x,zW)else if LG.relE bLe u y≠0 then (LG.relE bLe u y,zW)else (LG.ctL [LG.relR bGe u x,LG.relR bLe u y],LG.decV false [LG.relR bGe u x,LG.relR bLe u y]):=rfl
     rw[hd]at HFIN;have F1:=Hi (fun(h:LG.relE bGe u x≠0)=>(HFIN.out.trans (if_pos h)))
     have F2:=Hi (fun(h:¬LG.relE bGe u x≠0) (h':LG.relE bLe u y≠0)=>(HFIN.out.trans ((if_neg h).trans (if_pos h'))))
     have F3:=Hi (fun(h:¬LG.relE bGe u x≠0) (h':¬LG.relE bLe u y≠0)=>(HFIN.out.trans ((if_neg h).trans (if_neg h'))))
     unfold bGe at F1 F2 F3 H3;unfold bLe at F2 F3 H3;clear HFIN hd;generalize LG.ctL [LG.relR ⟨#[62,61]⟩ u x,LG.relR ⟨#[60,61]⟩ u y]=er at *;generalize LG.decV false [LG.relR ⟨#[62,61]⟩ u x,LG.relR ⟨#[60,61]⟩ u y]=ev at *;generalize LG.relE ⟨#[62,61]⟩ u x=e1 at *;generalize LG.relE ⟨#[60,61]⟩ u y=e2 at *;generalize LG.relR ⟨#[62,61]⟩ u x=r1 at *;generalize LG.relR ⟨#[60,61]⟩ u y=r2 at *;obtain⟨pk,pi,ps⟩:=r1;obtain⟨qk,qi,qs⟩:=r2;obtain⟨ek,ei,es⟩:=ev;dsimp only at H1 H2 H3;unfold zW at F1 F2;have KP:Hid (∀ w',Below wr.heap.size wr w'→(Below wr.heap.size wr w'∧w'.cell? ⟨b,0,none⟩=some (.int .i64 u.k)∧w'.cell? ⟨b,1,none⟩=some (.int .i64 u.i)∧w'.cell? ⟨b,2,none⟩=some (.string u.s)∧w'.cell? ⟨b,3,none⟩=some (.int .i64 x.k)∧w'.cell? ⟨b,4,none⟩=some (.int .i64 x.i)∧w'.cell? ⟨b,5,none⟩=some (.string x.s)∧w'.cell? ⟨b,6,none⟩=some (.int .i64 y.k)∧w'.cell? ⟨b,7,none⟩=some (.int .i64 y.i)∧w'.cell? ⟨b,8,none⟩=some (.string y.s)∧True)):=Hi fun w' hb=>⟨hb,((hb.cell (p:=⟨b,_,none⟩) HBL.out).trans HR0.out.1),((hb.cell (p:=⟨b,_,none⟩) HBL.out).trans HR0.out.2.1),((hb.cell (p:=⟨b,_,none⟩) HBL.out).trans HR0.out.2.2),((hb.cell (p:=⟨b,_,none⟩) HBL.out).trans HR1.out.1),((hb.cell (p:=⟨b,_,none⟩) HBL.out).trans HR1.out.2.1),((hb.cell (p:=⟨b,_,none⟩) HBL.out).trans HR1.out.2.2),((hb.cell (p:=⟨b,_,none⟩) HBL.out).trans HR2.out.1),((hb.cell (p:=⟨b,_,none⟩) HBL.out).trans HR2.out.2.1),((hb.cell (p:=⟨b,_,none⟩) HBL.out).trans HR2.out.2.2),trivial⟩
     have BB:=Hi (Below.refl wr.heap.size wr);have SS:=Hi (KP.out wr BB.out);clear HSO HYF HR hrow hcs hbl hgb hl0;simp only[List.length_cons,List.length_nil,Nat.zero_add,Nat.reduceAdd]at hcb H3 ⊢
     go_upto_region 23 with fail
     go_cut [11,12] (fun s4 s5 wx=>∃ g',s4 = .pointer (some ⟨g',0,none⟩)∧s5 = .int .i64 e1∧wr.heap.size≤g'∧Hid (VBox wx g' ⟨pk,pi,ps⟩)∧Hid (Below wr.heap.size wr wx))
     case first =>
      go_region_held3 (fun w'=>Below wr.heap.size wr w'∧w'.cell? ⟨b,0,none⟩=some (.int .i64 u.k)∧w'.cell? ⟨b,1,none⟩=some (.int .i64 u.i)∧w'.cell? ⟨b,2,none⟩=some (.string u.s)∧w'.cell? ⟨b,3,none⟩=some (.int .i64 x.k)∧w'.cell? ⟨b,4,none⟩=some (.int .i64 x.i)∧w'.cell? ⟨b,5,none⟩=some (.string x.s)∧w'.cell? ⟨b,6,none⟩=some (.int .i64 y.k)∧w'.cell? ⟨b,7,none⟩=some (.int .i64 y.i)∧w'.cell? ⟨b,8,none⟩=some (.string y.s)∧True) ((refine KP.out _ ?_;(repeat(first | with_reducible exact BB.out | with_reducible refine bel_drewE ?_ | with_reducible refine bel_allocE ?_ _ | (with_reducible refine bel_setE ?_ ?_ _;focus(simp only[World.size_alloc,World.size_drew]at *;omega)))))) ((go_at_call 66;go_must (refine(H1.out _).mono ?_);rintro q6 w6 ⟨rfl,hb⟩;refine with_fct (bthen (w:=wr) ?_ hb) ?_;(focus(repeat(first | with_reducible exact BB.out | with_reducible refine bel_drewE ?_ | with_reducible refine bel_allocE ?_ _ | (with_reducible refine bel_setE ?_ ?_ _;focus(simp only[World.size_alloc,World.size_drew]at *;omega)))));intro b6;have BB:=Hi b6;(try((first | with_reducible refine with_fct ((vdrew raw0).later hb) ?_ | with_reducible refine with_fct (raw0.later hb) ?_);intro vt;obtain⟨x0,x1,x2⟩:=vt.cells;obtain⟨y0,y1,y2⟩:=vt.free;simp only[SC.zV]at x0 x1 x2))))
      all_goals (go_wp2_with fail;go_meet;first | exact⟨_,rfl,rfl,b6.size,vmade w6 pk pi ps,bel_allocE b6 _⟩ | exact⟨_,rfl,rfl,Nat.le_refl _,vset vt pk pi ps,SC.Below.set3 b6 (Nat.le_refl _) _ _ _⟩)
     case rest =>
      obtain⟨g1,rfl,rfl,hg1,hv1,hb1⟩:=hcut;obtain⟨wa,rfl⟩:∃ wa:World,wa=wc:=⟨_,rfl⟩;have JA:=Hi (J2.out.later hb1.out);have V1:=Hi hv1.out;have HWA:=Hi hb1.out
      by_cases he1:e1=0
      ·subst he1
       have KP:Hid (∀ w',Below wa.heap.size wa w'→(Below wa.heap.size wa w'∧w'.cell? ⟨b,0,none⟩=some (.int .i64 u.k)∧w'.cell? ⟨b,1,none⟩=some (.int .i64 u.i)∧w'.cell? ⟨b,2,none⟩=some (.string u.s)∧w'.cell? ⟨b,3,none⟩=some (.int .i64 x.k)∧w'.cell? ⟨b,4,none⟩=some (.int .i64 x.i)∧w'.cell? ⟨b,5,none⟩=some (.string x.s)∧w'.cell? ⟨b,6,none⟩=some (.int .i64 y.k)∧w'.cell? ⟨b,7,none⟩=some (.int .i64 y.i)∧w'.cell? ⟨b,8,none⟩=some (.string y.s)∧True)):=Hi fun w' hb'=>by
        have hb:=bthen HWA.out hb';exact⟨hb',((hb.cell (p:=⟨b,_,none⟩) HBL.out).trans HR0.out.1),((hb.cell (p:=⟨b,_,none⟩) HBL.out).trans HR0.out.2.1),((hb.cell (p:=⟨b,_,none⟩) HBL.out).trans HR0.out.2.2),((hb.cell (p:=⟨b,_,none⟩) HBL.out).trans HR1.out.1),((hb.cell (p:=⟨b,_,none⟩) HBL.out).trans HR1.out.2.1),((hb.cell (p:=⟨b,_,none⟩) HBL.out).trans HR1.out.2.2),((hb.cell (p:=⟨b,_,none⟩) HBL.out).trans HR2.out.1),((hb.cell (p:=⟨b,_,none⟩) HBL.out).trans HR2.out.2.1),((hb.cell (p:=⟨b,_,none⟩) HBL.out).trans HR2.out.2.2),trivial⟩
       clear hg1 hv1 hb1 SS BB H1 y0 y1 y2 y3 y4 y5 y6 z0 z1 z2 f0 f1 f2;have BB:=Hi (Below.refl wa.heap.size wa);have SS:=Hi (KP.out wa BB.out)
       go_upto_region 26 with fail
       go_cut [13,12] (fun s4 s5 wx=>∃ g',s4 = .pointer (some ⟨g',0,none⟩)∧s5 = .int .i64 e2∧wa.heap.size≤g'∧Hid (VBox wx g' ⟨qk,qi,qs⟩)∧Hid (Below wa.heap.size wa wx))
       case first =>
        go_region_held3 (fun w'=>Below wa.heap.size wa w'∧w'.cell? ⟨b,0,none⟩=some (.int .i64 u.k)∧w'.cell? ⟨b,1,none⟩=some (.int .i64 u.i)∧w'.cell? ⟨b,2,none⟩=some (.string u.s)∧w'.cell? ⟨b,3,none⟩=some (.int .i64 x.k)∧w'.cell? ⟨b,4,none⟩=some (.int .i64 x.i)∧w'.cell? ⟨b,5,none⟩=some (.string x.s)∧w'.cell? ⟨b,6,none⟩=some (.int .i64 y.k)∧w'.cell? ⟨b,7,none⟩=some (.int .i64 y.i)∧w'.cell? ⟨b,8,none⟩=some (.string y.s)∧True) ((refine KP.out _ ?_;(repeat(first | with_reducible exact BB.out | with_reducible refine bel_drewE ?_ | with_reducible refine bel_allocE ?_ _ | (with_reducible refine bel_setE ?_ ?_ _;focus(simp only[World.size_alloc,World.size_drew]at *;omega)))))) ((go_at_call 66;go_must (refine(H2.out _).mono ?_);rintro q6 w6 ⟨rfl,hb⟩;refine with_fct (bthen (w:=wa) ?_ hb) ?_;(focus(repeat(first | with_reducible exact BB.out | with_reducible refine bel_drewE ?_ | with_reducible refine bel_allocE ?_ _ | (with_reducible refine bel_setE ?_ ?_ _;focus(simp only[World.size_alloc,World.size_drew]at *;omega)))));intro b6;have BB:=Hi b6;(try((first | with_reducible refine with_fct ((vdrew raw0).later hb) ?_ | with_reducible refine with_fct (raw0.later hb) ?_);intro vt;obtain⟨x0,x1,x2⟩:=vt.cells;obtain⟨y0,y1,y2⟩:=vt.free;simp only[SC.zV]at x0 x1 x2))))
        all_goals (go_wp2_with fail;go_meet;first | exact⟨_,rfl,rfl,b6.size,vmade w6 qk qi qs,bel_allocE b6 _⟩ | exact⟨_,rfl,rfl,Nat.le_refl _,vset vt qk qi qs,SC.Below.set3 b6 (Nat.le_refl _) _ _ _⟩)
       case rest =>
        obtain⟨g2,rfl,rfl,hg2,hv2,hb2⟩:=hcut;obtain⟨wb,rfl⟩:∃ wb:World,wb=wc:=⟨_,rfl⟩;have JB:=Hi (JA.out.later hb2.out);have V2:=Hi hv2.out;have V1':=Hi (V1.out.later hb2.out);clear hg2 hv2 hb2 SS KP BB H2 V1 JA HWA
        by_cases he2:e2=0
        ·subst he2
         have H3':=Hi (H3.out wb.heap.size _ (SC.args2 (w:=wb) (a:=⟨pk,pi,ps⟩) (b:=⟨qk,qi,qs⟩) rfl));obtain⟨a0,a1,a2⟩:=V1'.out.cells;obtain⟨b0,b1,b2⟩:=V2.out.cells;dsimp only at a0 a1 a2 b0 b1 b2 H3' ⊢;go_wp2_with fail;refine(H3'.out).mono ?_;rintro q7 w7 ⟨rfl,hb7⟩;have b7:=bthen (bel_allocE (Below.refl wb.heap.size wb) _) hb7;have J5:=Hi (JB.out.later b7);obtain⟨g0,g1,g2⟩:=J5.out.res.cells;obtain⟨f0,f1,f2⟩:=J5.out.res.free;simp only[zW]at g0 g1 g2;clear hb7 b7 a0 a1 a2 b0 b1 b2 JB;go_wp2_with fail;exact bodyPost_ret (v:= .tuple #[.agg #[.int .i64 ek,.int .i64 ei,.string es],.int .i64 er]) (by simp[results,Tryz.results38,go_sem,g0,g1,g2]) rfl ⟨by cases F3.out (by simp) (by simp);rfl,vset3 J5.out.bel (by omega) _ _ _⟩
        ·have hbe:(e2 != 0)=true:=by simpa using he2
         obtain⟨g0,g1,g2⟩:=JB.out.res.cells;obtain⟨f0,f1,f2⟩:=JB.out.res.free;simp only[zW]at g0 g1 g2;go_wp2_with fail;exact bodyPost_ret (v:= .tuple #[.agg #[.int .i64 0,.int .i64 0,.string ⟨#[]⟩],.int .i64 e2]) (by simp[results,Tryz.results38,go_sem,g0,g1,g2]) rfl ⟨by cases F2.out (by simp) he2;rfl,by first | exact vset3 JB.out.bel (by omega) _ _ _ | exact JB.out.bel⟩
      ·have hbe:(e1 != 0)=true:=by simpa using he1
       clear y0 y1 y2 y3 y4 y5 y6 z0 z1 z2 f0 f1 f2;obtain⟨g0,g1,g2⟩:=JA.out.res.cells;obtain⟨f0,f1,f2⟩:=JA.out.res.free;simp only[zW]at g0 g1 g2;clear hg1 hv1 hb1 SS KP BB H1;go_wp2_with fail;exact bodyPost_ret (v:= .tuple #[.agg #[.int .i64 0,.int .i64 0,.string ⟨#[]⟩],.int .i64 e1]) (by simp[results,Tryz.results38,go_sem,g0,g1,g2]) rfl ⟨by cases F1.out he1;rfl,by first | exact vset3 JA.out.bel (by omega) _ _ _ | exact JA.out.bel⟩
    ·subst ho
     rw[opP_word (by decide) (by decide),dp_wIn]at HFIN
     have hq:bo=⟨#[105,110]⟩:=HBO.out;subst hq;obtain⟨b,cb,rfl,hcb,-,hgb,hbl,hrow,hcs⟩:=J2.out.shape (by rw[HYL.out]at hl0;omega)
     have HBL:=Hi hbl;have HBN2:Hid (b≠w.heap.size+1):=Hi (by omega)
     obtain⟨u,us,rfl,hus⟩:=lenC (by rw[←HYL.out];exact hl0)
     have HR0:Hid (BV.CellsAt wr b 0 u):=Hi (show BV.CellsAt wr b 0 u from hcs 0 (by simp))
     have hrt:BV.RowAt wr wr.heap.size (some ⟨b,3,none⟩) us:=fun _=>⟨b,3,rfl,hbl,fun j hj=>by
      have h:=hcs (j+1) (by simpa using hj)
      rw[show 3+j*3=(j+1)*3 by omega]
      simpa using h⟩
     have hl2:=HYL.out;have HX:=Hi (fun W (hb:Below wr.heap.size wr W) (d:Nat)=>LG.rin_any u us (some ⟨b,3,none⟩) d W (hrt.later hb) (by have:=HL9.out;rw[List.length_cons]at hl2;omega))
     have hf:(fe,fv)=(LG.inE u us,LG.inR u us):=HFIN.out
     injection hf with hf1 hf2
     rw[←hf1,←hf2]at HX;obtain⟨d0,d1,d2⟩:=HR0.out;have hN1:us.length=(u::us).length - 1:=by simp
     rw[hN1]at HX hus;obtain⟨N,hN⟩:∃ N,N=(u::us).length:=⟨_,rfl⟩;rw[←hN]at HX hus hcb J2 ⊢;have n2:2≤N:=by omega
     have n1:((N:Int) == 1)=false:=by simp;omega
     have n1':¬((N:Int)=1):=by omega
     have n0:(N:Int) > 0:=by omega
     have n0':(0:Int) < (N:Int):=by omega
     have nn1:(1:Int)≤(N:Int):=by omega
     have nc1:¬cb=1:=by omega
     have nc2:(1:Int)≤(cb:Int):=by omega
     clear HFIN HSO HYF HR hrow hcs hbl hgb hrt hf1 hf2 hN hN1 hl2
     by_cases q2:N=2
     ·subst q2
      have HX0:=Hi (fun W (hb:Below wr.heap.size wr W)=>HX.out W hb (cb - 1))
      (try simp only[Nat.reduceSub]at HX0)
      go_wp2_with fail;clear y0 y1 y2 y3 y4 y5 y6 d0 d1 d2;have KP:Hid (∀ w',Bx (w.heap.size+1) wr w'→(Bx (w.heap.size+1) wr w'∧w'.cell? ⟨b,0,none⟩=some (.int .i64 u.k)∧w'.cell? ⟨b,1,none⟩=some (.int .i64 u.i)∧w'.cell? ⟨b,2,none⟩=some (.string u.s)∧True)):=Hi fun w' hb=>⟨hb,((hb.cell HBL.out HBN2.out).trans HR0.out.1),((hb.cell HBL.out HBN2.out).trans HR0.out.2.1),((hb.cell HBL.out HBN2.out).trans HR0.out.2.2),trivial⟩
      have BB:=Hi (Bx.of (H:=w.heap.size+1) (Below.refl wr.heap.size wr));have SS:=Hi (KP.out wr BB.out)
      go_region_held3 (fun w'=>Bx (w.heap.size+1) wr w'∧w'.cell? ⟨b,0,none⟩=some (.int .i64 u.k)∧w'.cell? ⟨b,1,none⟩=some (.int .i64 u.i)∧w'.cell? ⟨b,2,none⟩=some (.string u.s)∧True) ((refine KP.out _ ?_;(repeat(first | with_reducible exact BB.out | with_reducible refine Bx.drew ?_ | with_reducible refine Bx.alloc ?_ _ | with_reducible refine Bx.set ?_ _ _)))) ((first
       | (go_at_call 68;(with_reducible refine(HX0.out _ (bel_drewE (Below.refl _ _))).mono ?_;rintro r w8 ⟨rfl,b8⟩;have B0:=Hi (bthA (bel_drewE (Below.refl _ wr)) b8);have BB:=Hi (Bx.of (H:=w.heap.size+1) B0.out);have J5:=Hi (J2.out.later B0.out);obtain⟨g0,g1,g2⟩:=J5.out.res.cells;obtain⟨k0,k1,k2⟩:=J5.out.res.free;simp only[zW]at g0 g1 g2;clear b8))))
      all_goals go_wp2_with fail
      all_goals exact bodyPost_ret (v:= .tuple #[.agg #[.int .i64 fv.k,.int .i64 fv.i,.string fv.s],.int .i64 fe]) (by simp[results,Tryz.results38,go_sem,g0,g1,g2]) rfl ⟨rfl,vset3 J5.out.bel (by omega) _ _ _⟩
     ·by_cases q3:N=3
      ·subst q3
       have HX0:=Hi (fun W (hb:Below wr.heap.size wr W)=>HX.out W hb (cb - 1))
       (try simp only[Nat.reduceSub]at HX0)
       go_wp2_with fail;clear y0 y1 y2 y3 y4 y5 y6 d0 d1 d2;have KP:Hid (∀ w',Bx (w.heap.size+1) wr w'→(Bx (w.heap.size+1) wr w'∧w'.cell? ⟨b,0,none⟩=some (.int .i64 u.k)∧w'.cell? ⟨b,1,none⟩=some (.int .i64 u.i)∧w'.cell? ⟨b,2,none⟩=some (.string u.s)∧True)):=Hi fun w' hb=>⟨hb,((hb.cell HBL.out HBN2.out).trans HR0.out.1),((hb.cell HBL.out HBN2.out).trans HR0.out.2.1),((hb.cell HBL.out HBN2.out).trans HR0.out.2.2),trivial⟩
       have BB:=Hi (Bx.of (H:=w.heap.size+1) (Below.refl wr.heap.size wr));have SS:=Hi (KP.out wr BB.out)
       go_region_held3 (fun w'=>Bx (w.heap.size+1) wr w'∧w'.cell? ⟨b,0,none⟩=some (.int .i64 u.k)∧w'.cell? ⟨b,1,none⟩=some (.int .i64 u.i)∧w'.cell? ⟨b,2,none⟩=some (.string u.s)∧True) ((refine KP.out _ ?_;(repeat(first | with_reducible exact BB.out | with_reducible refine Bx.drew ?_ | with_reducible refine Bx.alloc ?_ _ | with_reducible refine Bx.set ?_ _ _)))) ((first
        | (go_at_call 68;(with_reducible refine(HX0.out _ (bel_drewE (Below.refl _ _))).mono ?_;rintro r w8 ⟨rfl,b8⟩;have B0:=Hi (bthA (bel_drewE (Below.refl _ wr)) b8);have BB:=Hi (Bx.of (H:=w.heap.size+1) B0.out);have J5:=Hi (J2.out.later B0.out);obtain⟨g0,g1,g2⟩:=J5.out.res.cells;obtain⟨k0,k1,k2⟩:=J5.out.res.free;simp only[zW]at g0 g1 g2;clear b8))))
       all_goals go_wp2_with fail
       all_goals exact bodyPost_ret (v:= .tuple #[.agg #[.int .i64 fv.k,.int .i64 fv.i,.string fv.s],.int .i64 fe]) (by simp[results,Tryz.results38,go_sem,g0,g1,g2]) rfl ⟨rfl,vset3 J5.out.bel (by omega) _ _ _⟩
      ·have m2:((N:Int) == 2)=false:=by simp;omega
       have m2':¬((N:Int)=2):=by omega
       have m3:((N:Int) == 3)=false:=by simp;omega
       have m3':¬((N:Int)=3):=by omega
       have HX0:=Hi (fun W (hb:Below wr.heap.size wr W)=>HX.out W hb (cb - 1))
       (try simp only[Nat.reduceSub]at HX0)
       go_wp2_with fail;clear y0 y1 y2 y3 y4 y5 y6 d0 d1 d2;have KP:Hid (∀ w',Bx (w.heap.size+1) wr w'→(Bx (w.heap.size+1) wr w'∧w'.cell? ⟨b,0,none⟩=some (.int .i64 u.k)∧w'.cell? ⟨b,1,none⟩=some (.int .i64 u.i)∧w'.cell? ⟨b,2,none⟩=some (.string u.s)∧True)):=Hi fun w' hb=>⟨hb,((hb.cell HBL.out HBN2.out).trans HR0.out.1),((hb.cell HBL.out HBN2.out).trans HR0.out.2.1),((hb.cell HBL.out HBN2.out).trans HR0.out.2.2),trivial⟩
       have BB:=Hi (Bx.of (H:=w.heap.size+1) (Below.refl wr.heap.size wr));have SS:=Hi (KP.out wr BB.out)
       go_region_held3 (fun w'=>Bx (w.heap.size+1) wr w'∧w'.cell? ⟨b,0,none⟩=some (.int .i64 u.k)∧w'.cell? ⟨b,1,none⟩=some (.int .i64 u.i)∧w'.cell? ⟨b,2,none⟩=some (.string u.s)∧True) ((refine KP.out _ ?_;(repeat(first | with_reducible exact BB.out | with_reducible refine Bx.drew ?_ | with_reducible refine Bx.alloc ?_ _ | with_reducible refine Bx.set ?_ _ _)))) ((first
        | (go_at_call 68;(with_reducible refine(HX0.out _ (bel_drewE (Below.refl _ _))).mono ?_;rintro r w8 ⟨rfl,b8⟩;have B0:=Hi (bthA (bel_drewE (Below.refl _ wr)) b8);have BB:=Hi (Bx.of (H:=w.heap.size+1) B0.out);have J5:=Hi (J2.out.later B0.out);obtain⟨g0,g1,g2⟩:=J5.out.res.cells;obtain⟨k0,k1,k2⟩:=J5.out.res.free;simp only[zW]at g0 g1 g2;clear b8))))
       all_goals go_wp2_with fail
       all_goals exact bodyPost_ret (v:= .tuple #[.agg #[.int .i64 fv.k,.int .i64 fv.i,.string fv.s],.int .i64 fe]) (by simp[results,Tryz.results38,go_sem,g0,g1,g2]) rfl ⟨rfl,vset3 J5.out.bel (by omega) _ _ _⟩
end Go.Proofs.YtcicpjgnpcnnmaaGreatDoor
