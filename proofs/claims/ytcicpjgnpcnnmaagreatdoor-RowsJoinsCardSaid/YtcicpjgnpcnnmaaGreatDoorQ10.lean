import Derived.ChangeArms
import Derived.Test.YtcicpjgnpcnnmaaGreatDoorQ05
set_option maxRecDepth 100000
set_option maxHeartbeats 2000000
namespace Go.Proofs.YtcicpjgnpcnnmaaGreatDoor
open Go.RowKit
mutual
def E.ints:E→Bool
 | .mk _ v _ _ l=>decide (-9223372036854775808≤v.i) && decide (v.i≤9223372036854775807) && E.intsL l
def E.intsL:List E→Bool
 | []=>true
 | a::l=>a.ints && E.intsL l
end
theorem intsL_iff{l:List E}:E.intsL l=true↔∀ x∈l,x.ints=true:=by
 induction l with
 | nil=>simp[E.intsL]
 | cons a l ih=>simp[E.intsL,ih]
mutual
def E.left:E→Int→Int
 | .mk _ _ _ _ l,m=>E.leftL l (m - 1)
def E.leftL:List E→Int→Int
 | [],m=>m
 | x::l,m=>if m < 0 then m else E.leftL l (x.left m)
end
mutual
def E.size:E→Nat
 | .mk _ _ _ _ l=>E.sizeL l+1
def E.sizeL:List E→Nat
 | []=>0
 | x::l=>x.size+E.sizeL l
end
theorem leftL_neg(l:List E){m:Int}(h:m < 0):E.leftL l m=m:=by cases l <;> simp[E.leftL,h]
theorem left_le(e:E):∀ m,e.left m≤m - 1∧(0≤m → -1≤e.left m)∧(0≤e.left m→e.left m=m - e.size):=by
 induction e using E.ind with
 | h o v t n l ih =>
  have hl:∀ m,E.leftL l m≤m∧(-1≤m → -1≤E.leftL l m)∧(0≤E.leftL l m→E.leftL l m=m - E.sizeL l):=by
   clear o v t n
   induction l with
   | nil=>intro m;simp[E.leftL,E.sizeL]
   | cons x l ihl =>
    intro m
    by_cases hm:m < 0
    ·rw[E.leftL,if_pos hm]
     exact⟨Int.le_refl _,id,fun h=>by omega⟩
    ·rw[E.leftL,if_neg hm]
     obtain⟨a1,a2,a3⟩:=ih x (by simp) m
     obtain⟨b1,b2,b3⟩:=ihl (fun y hy=>ih y (by simp[hy])) (x.left m)
     refine⟨by omega,fun _=>b2 (a2 (by omega)),fun h => ?_⟩
     have h0:0≤x.left m:=by
      rcases Int.lt_or_le (x.left m) 0 with hx | hx
      ·rw[leftL_neg l hx]at h;exact h
      ·exact hx
     rw[b3 h,a3 h0,E.sizeL]
     omega
  intro m;obtain⟨b1,b2,b3⟩:=hl (m - 1);simp only[E.left,E.size];exact⟨b1,fun h=>b2 (by omega),fun h=>by rw[b3 h];omega⟩
theorem list_one{l:List E}(h:l.length=1):∃ x,l = [x]:=by
 rcases l with _ | ⟨x,_ | ⟨y,l⟩⟩ <;> simp at h
 exact⟨x,rfl⟩
end Go.Proofs.YtcicpjgnpcnnmaaGreatDoor
namespace Go.Proofs.YtcicpjgnpcnnmaaGreatDoor
open Go.RowKit Go.ChangeShapes Go.WideShapes Go.Deep
section
variable {H : Type} {enc : TypeId × Value → H} {W : World}
theorem wf64x{n:Int}(h:(Lit.int .i64 n).wf=true) : -9223372036854775808≤n∧n≤9223372036854775807:=by
 simpa [Lit.wf,IntKind.min,IntKind.max,IntKind.signed,IntKind.bits]using h
theorem len3x{α:Type}{l:List α}(h:l.length=3):∃ a b c,l = [a,b,c]:=by
 match l,h with
 | [a,b,c],_=>exact⟨a,b,c,rfl⟩
theorem len5x{α:Type}{l:List α}(h:l.length=5):∃ a b c d e,l = [a,b,c,d,e]:=by
 match l,h with
 | [a,b,c,d,e],_=>exact⟨a,b,c,d,e,rfl⟩
theorem len7x{α:Type}{l:List α}(h:l.length=7):∃ a b c d e f g,l = [a,b,c,d,e,f,g]:=by
 match l,h with
 | [a,b,c,d,e,f,g],_=>exact⟨a,b,c,d,e,f,g,rfl⟩
theorem cell_inx{w:World}{b o:Nat}{v:Value}(h:w.cell? ⟨b,o,none⟩=some v):b < w.heap.size:=by
 rcases Nat.lt_or_ge b w.heap.size with h' | h'
 ·exact h'
 ·simp[World.cell?,Array.getElem?_eq_none h']at h
theorem list_pick{α:Type}{n:Nat}{p:Nat→α→Prop}(h:∀ i,i < n→∃ a,p i a):∃ l:List α,l.length=n∧∀ (i:Nat)(hi:i < l.length),p i l[i]:=by
 induction n with
 | zero=>exact⟨[],rfl,fun i hi=>by simp at hi⟩
 | succ n ih =>
  obtain⟨l,hl,hp⟩:=ih fun i hi=>h i (by omega)
  obtain⟨a,ha⟩:=h n (by omega)
  refine⟨l ++ [a],by simp[hl],fun i hi => ?_⟩
  by_cases hin:i < l.length
  ·rw[List.getElem_append_left hin];exact hp i hin
  ·have:i=l.length:=by simp at hi;omega
   subst this;simp only[List.getElem_append_right (Nat.le_refl _),Nat.sub_self,List.getElem_cons_zero];rw[hl];exact ha
theorem open_cells7(fuel:Nat):∀ (cs:List Value)(x:DataW H×List MemPlace),DataW.trod enc Tryz.prog W 0 (fun _=>true) true fuel 29 cs=some x →
  ∃ (e:E) (A:Option Addr) (c:Nat),cs=eCells e.op e.v e.tb e.nm (.slice A e.l.length c)∧Sub (fun _=>True) W e A c∧e.ints=true:=by
 induction fuel using Nat.strongRecOn with
 | ind fuel ih =>
  intro cs x hx;have c27:Tryz.prog.cellsOf 29=7:=by kernel_rfl
  have c24:Tryz.prog.cellsOf 26=3:=by kernel_rfl
  have c25:Tryz.prog.cellsOf 27=1:=by kernel_rfl
  have c3:Tryz.prog.cellsOf 3=1:=by kernel_rfl
  have c2:Tryz.prog.cellsOf 2=1:=by kernel_rfl
  have c9:Tryz.prog.cellsOf 9=1:=by kernel_rfl
  obtain⟨ys,n,hn,-,hcl,hyl,hf⟩:=DataW.trod_struct Tryz.underlying29 hx;rw[c27]at hcl;obtain⟨y0,y1,y2,y3,y4,rfl⟩:=len5x hyl;obtain⟨v0,v1,v2,v3,v4,v5,v6,rfl⟩:=len7x hcl;have g0:=hf 0 _ rfl;have g1:=hf 1 _ rfl;have g2:=hf 2 _ rfl;have g3:=hf 3 _ rfl;have g4:=hf 4 _ rfl;obtain⟨s0,e0,-,-⟩:=DataW.trod_string Tryz.underlying9 (show DataW.trod enc Tryz.prog W 0 (fun _=>true) true n 9 (([v0,v1,v2,v3,v4,v5,v6].drop 0).take (Tryz.prog.cellsOf 9))=some y0 from g0)
  have g1':DataW.trod enc Tryz.prog W 0 (fun _=>true) true n 26 (([v0,v1,v2,v3,v4,v5,v6].drop 1).take (Tryz.prog.cellsOf 26))=some y1:=g1
  obtain⟨s4,e4,-,-⟩:=DataW.trod_string Tryz.underlying9 (show DataW.trod enc Tryz.prog W 0 (fun _=>true) true n 9 (([v0,v1,v2,v3,v4,v5,v6].drop 4).take (Tryz.prog.cellsOf 9))=some y2 from g2)
  obtain⟨s5,e5,-,-⟩:=DataW.trod_string Tryz.underlying9 (show DataW.trod enc Tryz.prog W 0 (fun _=>true) true n 9 (([v0,v1,v2,v3,v4,v5,v6].drop 5).take (Tryz.prog.cellsOf 9))=some y3 from g3)
  have g4':DataW.trod enc Tryz.prog W 0 (fun _=>true) true n 27 (([v0,v1,v2,v3,v4,v5,v6].drop 6).take (Tryz.prog.cellsOf 27))=some y4:=g4
  rw[c24]at g1';rw[c25]at g4';rw[c9]at e0 e4 e5
  simp at e0 e4 e5 g1' g4'
  subst e0 e4 e5;obtain⟨zs,n',-,-,-,hzl,hf'⟩:=DataW.trod_struct Tryz.underlying26 g1';obtain⟨z0,z1,z2,rfl⟩:=len3x hzl;obtain⟨k,f0,-,wk⟩:=DataW.trod_int Tryz.underlying3 (show DataW.trod enc Tryz.prog W 0 (fun _=>true) true n' 3 (([v1,v2,v3].drop 0).take (Tryz.prog.cellsOf 3))=some z0 from hf' 0 _ rfl)
  obtain⟨i,f1,-,wi⟩:=DataW.trod_int Tryz.underlying2 (show DataW.trod enc Tryz.prog W 0 (fun _=>true) true n' 2 (([v1,v2,v3].drop 1).take (Tryz.prog.cellsOf 2))=some z1 from hf' 1 _ rfl)
  obtain⟨s,f2,-,-⟩:=DataW.trod_string Tryz.underlying9 (show DataW.trod enc Tryz.prog W 0 (fun _=>true) true n' 9 (([v1,v2,v3].drop 2).take (Tryz.prog.cellsOf 9))=some z2 from hf' 2 _ rfl)
  rw[c3]at f0;rw[c2]at f1;rw[c9]at f2
  simp at f0 f1 f2
  subst f0 f1 f2;have hi:=wf64x wi;rcases DataW.trod_slice Tryz.underlying27 g4' with ⟨hcs,-⟩ | ⟨a,len,cap,elems,rest,m,hm,hcs,-,-,hlc,hcm,hlen,hel,-,-⟩
  ·simp at hcs
   subst hcs;refine⟨.mk s0.data.toList ⟨k,i,s.data.toList⟩ s4.data.toList s5.data.toList [],none,0,?_,⟨Nat.le_refl _,Nat.zero_le _,fun h=>absurd h (by simp)⟩,?_⟩
   ·simp only[eCells,E.op,E.v,E.tb,E.nm,E.l,list_str,List.length_nil]
   ·simp only[E.ints,E.intsL,Bool.and_eq_true,decide_eq_true_eq];exact⟨hi,trivial⟩
  ·simp at hcs
   subst hcs;rw[c27]at hel;obtain⟨b,o,spot⟩:=a
   have hspot:0 < len→spot=none:=by
    intro h0;have h1:=hel 0 h0;rw[List.getElem?_eq_getElem (by omega)]at h1
    obtain⟨cs',hc,ht⟩:=Option.bind_eq_some_iff.1 h1;obtain⟨_,hcl',hat⟩:=World.cells?_some hc;obtain⟨e',A',c',rfl,hs,hi'⟩:=ih m (by omega) cs' _ ht
    have q0:=hat 0 (by omega)
    have:=World.cell?_spot (show W.cell? _=some _ from q0)
    simpa [Addr.add]using this
   have key:∀ j,j < len→∃ e':E,∃ A' c',Cells7 W b (o+j*7) e' A' c'∧Sub (fun _=>True) W e' A' c'∧e'.ints=true∧spot=none:=by
    intro j hj;have h1:=hel j hj;rw[List.getElem?_eq_getElem (by omega)]at h1
    obtain⟨cs',hc,ht⟩:=Option.bind_eq_some_iff.1 h1;obtain⟨_,hcl',hat⟩:=World.cells?_some hc;obtain⟨e',A',c',rfl,hs,hi'⟩:=ih m (by omega) cs' _ ht
    obtain rfl:=hspot (by omega)
    have q0:=hat 0 (by omega)
    have q1:=hat 1 (by omega)
    have q2:=hat 2 (by omega)
    have q3:=hat 3 (by omega)
    have q4:=hat 4 (by omega)
    have q5:=hat 5 (by omega)
    have q6:=hat 6 (by omega)
    rw[add_plain,add_plain]at q0 q1 q2 q3 q4 q5 q6;exact⟨e',A',c',⟨q0,q1,q2,q3,q4,q5,q6⟩,hs,hi',rfl⟩
   obtain⟨l,hll,hl⟩:=list_pick key;refine⟨.mk s0.data.toList ⟨k,i,s.data.toList⟩ s4.data.toList s5.data.toList l,some ⟨b,o,spot⟩,cap,?_,⟨by omega,hcm,fun h => ?_⟩,?_⟩
   ·simp only[eCells,E.op,E.v,E.tb,E.nm,E.l,list_str,hll]
   ·obtain⟨A',c',h1,-,-,hsp⟩:=hl 0 h
    subst hsp;refine⟨b,o,rfl,trivial,cell_inx h1.1,LCells.of fun j hj => ?_⟩
    obtain⟨A',c',h2,h3,-,-⟩:=hl j hj;exact⟨A',c',h2,h3⟩
   ·simp only[E.ints,Bool.and_eq_true,decide_eq_true_eq,intsL_iff]
    refine⟨hi,fun y hy => ?_⟩
    obtain⟨j,hj,rfl⟩:=List.getElem_of_mem hy;obtain⟨A',c',-,-,h4,-⟩:=hl j hj;exact h4
theorem open_expr{r:Reach}{b0:Nat}{v:Value}{d:DataW H}{p:List MemPlace}(hv:Value.okWide Tryz.prog W r b0 29 v)(h:DataW.Trod enc Tryz.prog W 0 (fun _=>true) true 29 v d p) :
  ∃ e:E,EAt (fun _=>True) W e v∧e.ints=true:=by
 unfold Value.okWide at hv;rw[Tryz.underlying29]at hv;obtain⟨cs,rfl,-,-⟩:=hv;obtain⟨fuel,hf⟩:=h;obtain⟨e,A,c,hcs,hs,hi⟩:=open_cells7 fuel _ _ hf;refine⟨e,⟨A,c,?_,hs⟩,hi⟩;have:cs.toList=_:=hcs;unfold eVal
 congr 1
 exact Array.toList_inj.1 (by rw[this];rfl)
end
end Go.Proofs.YtcicpjgnpcnnmaaGreatDoor
namespace Go.Proofs.YtcicpjgnpcnnmaaGreatDoor
open Go.RowKit
theorem left_any(e:E):∀ (x:Value)(S:Nat→Prop)(w:World)(m:Int),EAt S w e x→0≤m→m≤1000→Calls Tryz.prog 56 #[x,.int .i64 m] w fun r w'=>r = .returned (.int .i64 (e.left m))∧Below w.heap.size w w':=by
 induction e using E.ind with
 | h o v t n l ih =>
  rintro x S w m ⟨A,c,rfl,hsub⟩ hm0 hm1;obtain⟨hlc,hcm,hmem⟩:=hsub;have hm:l.length≤9223372036854775807:=Nat.le_trans hlc hcm;have HI:=Hi (fun(k:Nat) (hk:k < l.length) (x:Value) (S:Nat→Prop) (w:World) (m:Int) (hx:EAt S w l[k] x) h0 h1=>ih l[k] (List.getElem_mem hk) x S w m hx h0 h1)
  simp only[E.op,E.v,E.tb,E.nm,E.l,eVal,E.left];have HL:Hid (∀ k (hk:k < l.length) (M:Int),E.leftL (l.drop k) M=if M < 0 then M else E.leftL (l.drop (k+1)) (l[k].left M)):=fun k hk M=>by rw[List.drop_eq_getElem_cons hk];simp only[E.leftL]
  have HLe:Hid (∀ k (hk:k < l.length) (M:Int),0≤M → -1≤l[k].left M∧l[k].left M≤M):=fun k hk M h0=>⟨(left_le _ M).2.1 h0,by have:=(left_le l[k] M).1;omega⟩
  generalize hR:E.leftL l (m - 1)=R at *;have HR:Hid (E.leftL (l.drop 0) (m - 1)=R):=by rw[List.drop_zero];exact hR
  clear hR;generalize str o=bo at *;generalize str t=bt at *;generalize str n=bn at *;generalize str v.s=bs at *;generalize v.k=vk at *;generalize v.i=vi at *;have hb0:=(Below.refl w.heap.size w).alloc (Nat.le_refl _) (.cells #[.string bo,.int .i64 vk,.int .i64 vi,.string bs,.string bt,.string bn,.slice A l.length c] 29);have hbx:=(B7.made w (.string bo) (.int .i64 vk) (.int .i64 vi) (.string bs) (.string bt) (.string bn) (.slice A l.length c)).cells;obtain⟨x0,x1,x2,x3,x4,x5,x6⟩:=hbx;have HM:=Hi hmem;have HB0:=Hi hb0;clear ih hmem hlc hcm hb0;go_enter Tryz.func56,Tryz.ntmps56;go_wp2_with fail;clear x0 x1 x2 x3 x4 x5 x6
  go_loopw [12,1] (fun iv mv wr=>∃ (k:Nat) (M:Int),k≤l.length∧iv = .int .i64 k∧mv = .int .i64 M ∧ -1≤M∧M≤1000∧Hid (E.leftL (l.drop k) M=R)∧Hid (Below w.heap.size w wr)) (fun iv _ _=>l.length - (intOf iv).toNat)
  case atStart=>exact⟨0,m - 1,Nat.zero_le _,rfl,by go_num,by omega,by omega,HR.out,HB0.out⟩
  case round =>
   obtain⟨k,M,hk,rfl,rfl,hM0,hM1,HK,HB⟩:=hrel
   by_cases hlt:k < l.length
   ·obtain⟨g,off,rfl,hS,hg,hl⟩:=HM.out (by omega)
    obtain⟨A',c',⟨g0,g1,g2,g3,g4,g5,g6⟩,hs⟩:=hl.get k hlt;have hkz:(k:Int) < (l.length:Int):=by omega
    have z:=HB.out.size;have i0:=(HB.out.cell (p:=⟨g,off+k*7,none⟩) hg).trans g0;have i1:=(HB.out.cell (p:=⟨g,off+k*7+1,none⟩) hg).trans g1;have i2:=(HB.out.cell (p:=⟨g,off+k*7+2,none⟩) hg).trans g2;have i3:=(HB.out.cell (p:=⟨g,off+k*7+3,none⟩) hg).trans g3;have i4:=(HB.out.cell (p:=⟨g,off+k*7+4,none⟩) hg).trans g4;have i5:=(HB.out.cell (p:=⟨g,off+k*7+5,none⟩) hg).trans g5;have i6:=(HB.out.cell (p:=⟨g,off+k*7+6,none⟩) hg).trans g6;obtain⟨W1,W,hW1,hW,b1,b2,hz,hb1,hb2⟩:=made7 wr (.string (str l[k].op)) (.int .i64 l[k].v.k) (.int .i64 l[k].v.i) (.string (str l[k].v.s)) (.string (str l[k].tb)) (.string (str l[k].nm)) (.slice A' l[k].l.length c');have f1:=b1.free;have y1:=b2.cells;obtain⟨p10,p11,p12,p13,p14,p15,p16⟩:=b1.cells
    have hE:EAt S W l[k] (eVal l[k].op l[k].v l[k].tb l[k].nm (.slice A' l[k].l.length c')):=by
     have h0:EAt S w l[k] (eVal l[k].op l[k].v l[k].tb l[k].nm (.slice A' l[k].l.length c')):=⟨A',c',rfl,hs⟩;exact(h0.later HB.out).later hb2
    have HC:=Hi (fun h0 h1=>HI.out k hlt _ S W M hE h0 h1)
    have hKK:=HL.out k hlt M;rw[HK.out]at hKK;have HLK:=Hi (HLe.out k hlt M);have HB2:=Hi (bthen HB.out hb2);have HW1:=Hi hW1;have HW:=Hi hW;obtain⟨f10,f11,f12,f13,f14,f15,f16⟩:=f1;obtain⟨y10,y11,y12,y13,y14,y15,y16⟩:=y1;unfold eVal at HC;generalize str l[k].op=bo' at *;generalize str l[k].tb=bt' at *;generalize str l[k].nm=bn' at *;generalize str l[k].v.s=bs' at *;generalize l[k].v.k=vk' at *;generalize l[k].v.i=vi' at *;generalize l[k].l.length=ln' at *;generalize hdp:l[k].left M=Q at *;clear hW1 hW hs hl hE g0 g1 g2 g3 g4 g5 g6 b1 b2 hb1 hb2 HB HI HM HB0 hdp HK HR HL HLe
    by_cases hneg:M < 0
    ·rw[if_pos hneg]at hKK
     have HKK:=Hi hKK;clear hKK
     go_wp2_with (first | (rw[←HW.out]) | (rw[←HW1.out]))
     go_ret
     rw[HKK.out];exact⟨rfl,HB2.out⟩
    ·rw[if_neg hneg]at hKK
     have HKK:=Hi hKK;clear hKK
     go_wp2_with (first | (rw[←HW.out]) | (rw[←HW1.out]))
     refine(HC.out (by omega) (by omega)).mono ?_
     rintro e w3 ⟨rfl,b3⟩;obtain⟨hq0,hq1⟩:=HLK.out (by omega)
     go_wp2_with fail
     go_roundw
     case measure=>simp[intOf];omega
     case rel=>exact⟨k+1,Q,by omega,by go_num,rfl,by omega,by omega,HKK.out.symm,bthen HB2.out b3⟩
   ·have hke:k=l.length:=by omega
    have hkz:¬(k:Int) < (l.length:Int):=by omega
    subst hke;have hKK:=HK.out;rw[List.drop_length]at hKK;simp only[E.leftL]at hKK;subst hKK;clear HM HI HB0 HL HLe HR HK;go_wp2_with fail
    go_ret
    exact⟨by go_num,HB.out⟩
theorem few_e(e:E)(x:Value)(S:Nat→Prop)(w:World)(m:Int)(hx:EAt S w e x)(h0:0≤m)(h1:m≤1000):Calls Tryz.prog 30 #[x,.int .i64 m] w fun r w'=>r = .returned (.bool (decide (0≤e.left m)))∧Below w.heap.size w w':=by
 obtain⟨s0,i1,i2,s3,s4,s5,A,n,c,rfl⟩:=hx.agg;obtain⟨W1,hW1,q1,z1,r1⟩:=box7 w (.string s0) (.int .i64 i1) (.int .i64 i2) (.string s3) (.string s4) (.string s5) (.slice A n c);have HC:=Hi (left_any e _ _ W1 m (hx.later r1) h0 h1);obtain⟨a0,a1,a2,a3,a4,a5,a6⟩:=q1.cells;have HB:=Hi r1;have HW1:=Hi hW1;generalize e.left m=R at *;clear hW1 hx q1 r1;go_enter Tryz.func30,Tryz.ntmps30
 go_wp2_with (rw[←HW1.out])
 refine(HC.out).mono ?_;rintro e w3 ⟨rfl,b3⟩;go_wp2_with fail
 go_ret
 exact⟨rfl,bthen HB.out b3⟩
end Go.Proofs.YtcicpjgnpcnnmaaGreatDoor
