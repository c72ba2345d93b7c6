import Derived.Test.YtcicpjgnpcnnmaaGreatDoorQ63
set_option maxRecDepth 100000
set_option maxHeartbeats 2000000
set_option linter.unusedSimpArgs false
set_option linter.unusedVariables false
namespace Go.Proofs.YtcicpjgnpcnnmaaGreatDoor
open Go.RowKit
open SC (HV VBox)
def VR(w:World)(r:BV.V)(e:Int)(q:Ending)(w':World):Prop:=q = .returned (.tuple #[.agg #[.int .i64 r.k,.int .i64 r.i,.string r.s],.int .i64 e])∧Below w.heap.size w w'
theorem rtext1R(s:ByteArray)(w:World):Calls Tryz.prog 151 #[.string s] w fun e w'=>e = .returned (.agg #[.int .i64 3,.int .i64 0,.string s])∧Below w.heap.size w w':=by
 go_enter Tryz.func151,Tryz.ntmps151;go_wp2_with fail;exact bodyPost_ret (v:= .agg #[.int .i64 3,.int .i64 0,.string s]) (by simp[results,Tryz.results151,go_sem]) rfl ⟨rfl,oneA w _⟩
theorem vset3{B:Nat}{a w:World}(h:Below B a w){b:Nat}(hb:B≤b)(x y z:Value):Below B a (((w.setCell ⟨b,0,none⟩ x).setCell ⟨b,1,none⟩ y).setCell ⟨b,2,none⟩ z):=((h.setCell hb _).setCell hb _).setCell hb _
structure Cb(w:World)(b off:Nat)(xs:List BV.V)(v:BV.V)(W1 W2:World):Prop where
 e1:W1=w.alloc (.cells #[.int .i64 0,.int .i64 0,.string ⟨#[]⟩] 26)
 e2:W2=W1.alloc (.cells #[.int .i64 v.k,.int .i64 v.i,.string v.s] 26)
 z1:W1.heap.size=w.heap.size+1
 z2:W2.heap.size=w.heap.size+2
 c0:W1.cell? ⟨b,off,none⟩=some (.int .i64 v.k)
 c1:W1.cell? ⟨b,off+1,none⟩=some (.int .i64 v.i)
 c2:W1.cell? ⟨b,off+2,none⟩=some (.string v.s)
 hv:HV w [(w.heap.size+1,v),(w.heap.size,zW)] W2
 lt:b < w.heap.size
 row:∀ W,Below W2.heap.size W2 W→∀ j (h:j < xs.length),BV.CellsAt W b (off+j*3) xs[j]
structure Bx(H:Nat)(a w:World):Prop where
 size:a.heap.size≤w.heap.size
 block:∀ k,k < a.heap.size→k≠H→w.heap[k]? = a.heap[k]?
theorem Bx.of{H:Nat}{a w:World}(h:Below a.heap.size a w):Bx H a w:=⟨h.size,fun k hk _=>h.block k hk⟩
theorem Bx.drew{H:Nat}{a w:World}(h:Bx H a w):Bx H a w.drew:=⟨h.size,h.block⟩
theorem Bx.alloc{H:Nat}{a w:World}(h:Bx H a w)(o:Obj):Bx H a (w.alloc o):=⟨by have:=h.size;simp;omega,fun k hk hn=>by rw[Below.heap_alloc _ _ _ (Nat.lt_of_lt_of_le hk h.size)];exact h.block k hk hn⟩
theorem Bx.set{H:Nat}{a w:World}(h:Bx H a w)(j:Nat)(u:Value):Bx H a (w.setCell ⟨H,j,none⟩ u):=⟨by simpa using h.size,fun k hk hn=>by rw[Below.heap_setCell _ _ _ _ (by simpa using hn)];exact h.block k hk hn⟩
theorem Bx.cell{H:Nat}{a w:World}(h:Bx H a w){k j:Nat}(hk:k < a.heap.size)(hn:k≠H):w.cell? ⟨k,j,none⟩=a.cell? ⟨k,j,none⟩:=by simp only[World.cell?,h.block k hk hn]
theorem cb_make{w:World}{A:Option Addr}{xs:List BV.V}(hr:BV.RowAt w w.heap.size A xs)(h0:0 < xs.length):∃ b off W1 W2,A=some ⟨b,off,none⟩∧Cb w b off xs xs[0] W1 W2:=by
 obtain⟨b,off,hA,hlt,hc⟩:=hr h0;have k1:=oneA w (.cells #[.int .i64 0,.int .i64 0,.string ⟨#[]⟩] 26);have h1:HV w [(w.heap.size,zW)] (w.alloc (.cells #[.int .i64 0,.int .i64 0,.string ⟨#[]⟩] 26)):=(HV.nil w).push zW;have h2:=h1.pushAt (H:=w.heap.size+1) (by simp) xs[0]
 have hc0:=hc 0 h0;simp only[Nat.zero_mul,Nat.add_zero]at hc0;refine⟨b,off,_,_,hA,rfl,rfl,by simp,by simp,(k1.cell (p:=⟨b,_,none⟩) hlt).trans hc0.1,(k1.cell (p:=⟨b,_,none⟩) hlt).trans hc0.2.1,(k1.cell (p:=⟨b,_,none⟩) hlt).trans hc0.2.2,h2,hlt,fun W hb j hj => ?_⟩
 have hw:=bthA h2.below hb;have h3:=hc j hj;exact⟨(hw.cell (p:=⟨b,_,none⟩) hlt).trans h3.1,(hw.cell (p:=⟨b,_,none⟩) hlt).trans h3.2.1,(hw.cell (p:=⟨b,_,none⟩) hlt).trans h3.2.2⟩
theorem rc_length(v:BV.V)(xs:List BV.V)(A:Option Addr)(c:Nat)(w:World)(hr:BV.RowAt w w.heap.size A xs)(h0:0 < xs.length)(hv:xs[0]=v)(hs:v.s.size≤100000000) :
  Calls Tryz.prog 113 #[.string ⟨#[108,101,110,103,116,104]⟩,.slice A xs.length c] w (VR w (nuV v.s.size) (0)):=by
 obtain⟨b,off,W1,W2,rfl,CB⟩:=cb_make hr h0;rw[hv]at CB;obtain⟨a0,a1,a2⟩:=CB.hv.box.cells;obtain⟨r0,r1,r2⟩:=CB.hv.tail.box.cells;obtain⟨f0,f1,f2⟩:=CB.hv.tail.box.free;have d0:=CB.c0;have d1:=CB.c1;have d2:=CB.c2;have E1:=Hi CB.e1;have E2:=Hi CB.e2;have HZ1:=Hi CB.z1;have HH:=Hi CB.hv;have HL:Hid (0 < xs.length):=Hi h0;simp only[zW]at r0 r1 r2;have hz1:=CB.z1;clear hr hv h0;generalize xs.length=n at *;have h0z:(0:Int) < (n:Int):=by have:=HL.out;omega
 obtain⟨H,hH⟩:∃ H,H=w.heap.size:=⟨_,rfl⟩;go_enter Tryz.func113,Tryz.ntmps113
 go_wp2_with (first | (rw[←E2.out]) | (rw[←E1.out]))
 refine(SC.rint1_any _ W2).mono ?_;rintro q w3 ⟨rfl,b3⟩;have H3:=Hi (HH.out.call b3);obtain⟨g0,g1,g2⟩:=H3.out.tail.box.cells;obtain⟨k0,k1,k2⟩:=H3.out.tail.box.free;simp only[zW]at g0 g1 g2;go_wp2_with fail;exact bodyPost_ret (v:= .tuple #[.agg #[.int .i64 2,.int .i64 v.s.size,.string ⟨#[]⟩],.int .i64 0]) (by simp[results,Tryz.results113,go_sem,g0,g1,g2]) rfl ⟨rfl,vset3 H3.out.below (Nat.le_refl _) _ _ _⟩
theorem rc_lower(v:BV.V)(xs:List BV.V)(A:Option Addr)(c:Nat)(w:World)(hr:BV.RowAt w w.heap.size A xs)(h0:0 < xs.length)(hv:xs[0]=v)(hs:v.s.size≤100000000) :
  Calls Tryz.prog 113 #[.string ⟨#[108,111,119,101,114]⟩,.slice A xs.length c] w (VR w (txtV (SC.turnedB 65 v.s)) (0)):=by
 obtain⟨b,off,W1,W2,rfl,CB⟩:=cb_make hr h0;rw[hv]at CB;obtain⟨a0,a1,a2⟩:=CB.hv.box.cells;obtain⟨r0,r1,r2⟩:=CB.hv.tail.box.cells;obtain⟨f0,f1,f2⟩:=CB.hv.tail.box.free;have d0:=CB.c0;have d1:=CB.c1;have d2:=CB.c2;have E1:=Hi CB.e1;have E2:=Hi CB.e2;have HZ1:=Hi CB.z1;have HH:=Hi CB.hv;have HL:Hid (0 < xs.length):=Hi h0;simp only[zW]at r0 r1 r2;have hz1:=CB.z1;clear hr hv h0;generalize xs.length=n at *;have h0z:(0:Int) < (n:Int):=by have:=HL.out;omega
 obtain⟨H,hH⟩:∃ H,H=w.heap.size:=⟨_,rfl⟩;go_enter Tryz.func113,Tryz.ntmps113
 go_wp2_with (first | (rw[←E2.out]) | (rw[←E1.out]))
 refine(turn65 v.s hs W2).mono ?_;rintro q w3 ⟨rfl,b3⟩;have H3:=Hi (HH.out.call b3);obtain⟨g0,g1,g2⟩:=H3.out.tail.box.cells;obtain⟨k0,k1,k2⟩:=H3.out.tail.box.free;simp only[zW]at g0 g1 g2;go_wp2_with fail;refine(rtext1R _ w3).mono ?_;rintro q w4 ⟨rfl,b4⟩;have H4:=Hi (H3.out.call b4);obtain⟨g0,g1,g2⟩:=H4.out.tail.box.cells;obtain⟨k0,k1,k2⟩:=H4.out.tail.box.free;simp only[zW]at g0 g1 g2;go_wp2_with fail;exact bodyPost_ret (v:= .tuple #[.agg #[.int .i64 3,.int .i64 0,.string (SC.turnedB 65 v.s)],.int .i64 0]) (by simp[results,Tryz.results113,go_sem,g0,g1,g2]) rfl ⟨rfl,vset3 H4.out.below (Nat.le_refl _) _ _ _⟩
theorem rc_upper(v:BV.V)(xs:List BV.V)(A:Option Addr)(c:Nat)(w:World)(hr:BV.RowAt w w.heap.size A xs)(h0:0 < xs.length)(hv:xs[0]=v)(hs:v.s.size≤100000000) :
  Calls Tryz.prog 113 #[.string ⟨#[117,112,112,101,114]⟩,.slice A xs.length c] w (VR w (txtV (SC.turnedB 97 v.s)) (0)):=by
 obtain⟨b,off,W1,W2,rfl,CB⟩:=cb_make hr h0;rw[hv]at CB;obtain⟨a0,a1,a2⟩:=CB.hv.box.cells;obtain⟨r0,r1,r2⟩:=CB.hv.tail.box.cells;obtain⟨f0,f1,f2⟩:=CB.hv.tail.box.free;have d0:=CB.c0;have d1:=CB.c1;have d2:=CB.c2;have E1:=Hi CB.e1;have E2:=Hi CB.e2;have HZ1:=Hi CB.z1;have HH:=Hi CB.hv;have HL:Hid (0 < xs.length):=Hi h0;simp only[zW]at r0 r1 r2;have hz1:=CB.z1;clear hr hv h0;generalize xs.length=n at *;have h0z:(0:Int) < (n:Int):=by have:=HL.out;omega
 obtain⟨H,hH⟩:∃ H,H=w.heap.size:=⟨_,rfl⟩;go_enter Tryz.func113,Tryz.ntmps113
 go_wp2_with (first | (rw[←E2.out]) | (rw[←E1.out]))
 refine(turn97 v.s hs W2).mono ?_;rintro q w3 ⟨rfl,b3⟩;have H3:=Hi (HH.out.call b3);obtain⟨g0,g1,g2⟩:=H3.out.tail.box.cells;obtain⟨k0,k1,k2⟩:=H3.out.tail.box.free;simp only[zW]at g0 g1 g2;go_wp2_with fail;refine(rtext1R _ w3).mono ?_;rintro q w4 ⟨rfl,b4⟩;have H4:=Hi (H3.out.call b4);obtain⟨g0,g1,g2⟩:=H4.out.tail.box.cells;obtain⟨k0,k1,k2⟩:=H4.out.tail.box.free;simp only[zW]at g0 g1 g2;go_wp2_with fail;exact bodyPost_ret (v:= .tuple #[.agg #[.int .i64 3,.int .i64 0,.string (SC.turnedB 97 v.s)],.int .i64 0]) (by simp[results,Tryz.results113,go_sem,g0,g1,g2]) rfl ⟨rfl,vset3 H4.out.below (Nat.le_refl _) _ _ _⟩
theorem rc_abs0(v:BV.V)(xs:List BV.V)(A:Option Addr)(c:Nat)(w:World)(hr:BV.RowAt w w.heap.size A xs)(h0:0 < xs.length)(hv:xs[0]=v)(hi:0≤v.i) :
  Calls Tryz.prog 113 #[.string ⟨#[97,98,115]⟩,.slice A xs.length c] w (VR w (v) (0)):=by
 obtain⟨b,off,W1,W2,rfl,CB⟩:=cb_make hr h0;rw[hv]at CB;obtain⟨a0,a1,a2⟩:=CB.hv.box.cells;obtain⟨r0,r1,r2⟩:=CB.hv.tail.box.cells;obtain⟨f0,f1,f2⟩:=CB.hv.tail.box.free;have d0:=CB.c0;have d1:=CB.c1;have d2:=CB.c2;have E1:=Hi CB.e1;have E2:=Hi CB.e2;have HZ1:=Hi CB.z1;have HH:=Hi CB.hv;have HL:Hid (0 < xs.length):=Hi h0;simp only[zW]at r0 r1 r2;have hz1:=CB.z1;clear hr hv h0;generalize xs.length=n at *;have h0z:(0:Int) < (n:Int):=by have:=HL.out;omega
 obtain⟨H,hH⟩:∃ H,H=w.heap.size:=⟨_,rfl⟩;have hge:v.i≥0:=hi;obtain⟨g0,g1,g2⟩:=HH.out.tail.box.cells;simp only[zW]at g0 g1 g2;go_enter Tryz.func113,Tryz.ntmps113
 go_wp2_with (first | (rw[←E2.out]) | (rw[←E1.out]))
 exact bodyPost_ret (v:= .tuple #[.agg #[.int .i64 v.k,.int .i64 v.i,.string v.s],.int .i64 0]) (by simp[results,Tryz.results113,go_sem,g0,g1,g2]) rfl ⟨rfl,vset3 HH.out.below (Nat.le_refl _) _ _ _⟩
theorem rc_abs1(v:BV.V)(xs:List BV.V)(A:Option Addr)(c:Nat)(w:World)(hr:BV.RowAt w w.heap.size A xs)(h0:0 < xs.length)(hv:xs[0]=v)(hi:v.i < 0)(hI : -9223372036854775808≤v.i∧v.i≤9223372036854775807) :
  Calls Tryz.prog 113 #[.string ⟨#[97,98,115]⟩,.slice A xs.length c] w (VR w ((dNeg v).2) ((dNeg v).1)):=by
 obtain⟨b,off,W1,W2,rfl,CB⟩:=cb_make hr h0;rw[hv]at CB;obtain⟨a0,a1,a2⟩:=CB.hv.box.cells;obtain⟨r0,r1,r2⟩:=CB.hv.tail.box.cells;obtain⟨f0,f1,f2⟩:=CB.hv.tail.box.free;have d0:=CB.c0;have d1:=CB.c1;have d2:=CB.c2;have E1:=Hi CB.e1;have E2:=Hi CB.e2;have HZ1:=Hi CB.z1;have HH:=Hi CB.hv;have HL:Hid (0 < xs.length):=Hi h0;simp only[zW]at r0 r1 r2;have hz1:=CB.z1;clear hr hv h0;generalize xs.length=n at *;have h0z:(0:Int) < (n:Int):=by have:=HL.out;omega
 obtain⟨H,hH⟩:∃ H,H=w.heap.size:=⟨_,rfl⟩;have hge:¬v.i≥0:=by omega
 have hge2:¬0≤v.i:=by omega
 have HX:=Hi (SC.rneg_any v W2 (by unfold SC.In64;exact hI))
 show Calls Tryz.prog 113 _ w (VR w (SC.arV ⟨#[45]⟩ (SC.nV 0) v) (SC.arE ⟨#[45]⟩ (SC.nV 0) v))
 generalize SC.arV ⟨#[45]⟩ (SC.nV 0) v=R at *;generalize SC.arE ⟨#[45]⟩ (SC.nV 0) v=er at *;go_enter Tryz.func113,Tryz.ntmps113
 go_wp2_with (first | (rw[←E2.out]) | (rw[←E1.out]))
 refine(HX.out).mono ?_;rintro q w3 ⟨rfl,b3⟩;have H3:=Hi (HH.out.call b3);obtain⟨g0,g1,g2⟩:=H3.out.tail.box.cells;obtain⟨k0,k1,k2⟩:=H3.out.tail.box.free;simp only[zW]at g0 g1 g2;go_wp2_with fail;exact bodyPost_ret (v:= .tuple #[.agg #[.int .i64 R.k,.int .i64 R.i,.string R.s],.int .i64 er]) (by simp[results,Tryz.results113,go_sem,g0,g1,g2]) rfl ⟨rfl,vset3 H3.out.below (Nat.le_refl _) _ _ _⟩
def Lft(l:List UInt8)(x:ByteArray):Prop:=∃ i,i≤l.length∧x.data.toList=l.drop i∧∀ j (h:j < l.length),j < i→l[j]=32
def Rgt(l:List UInt8)(x:ByteArray):Prop:=∃ i m,i+m≤l.length∧x.data.toList=(l.drop i).take m∧(∀ j (h:j < l.length),j < i→l[j]=32)∧(∀ j (h:j < l.length),i+m≤j→l[j]=32)∧(∀ h:i < l.length,0 < m→l[i]≠32)
theorem ba_get(x:ByteArray)(k:Nat)(h:k < x.size):x[k]=x.data.toList[k]'(by rw[ba_len];exact h):=rfl
theorem Lft.start(s:ByteArray):Lft s.data.toList s:=⟨0,Nat.zero_le _,rfl,fun j _ h=>absurd h (Nat.not_lt_zero _)⟩
theorem Lft.next{l:List UInt8}{x:ByteArray}(h:Lft l x)(h0:0 < x.size)(hb:x[0]=32):Lft l (x.extract 1 x.size):=by
 obtain⟨i,h1,h2,h3⟩:=h;have hlen:x.size=l.length - i:=by rw[←ba_len,h2,List.length_drop]
 have hi:i < l.length:=by omega
 have e:l[i]=32:=by
  rw[←hb,ba_get];simp only[h2,List.getElem_drop]
  rfl
 refine⟨i+1,by omega,?_,fun j hj hji => ?_⟩
 ·rw[ba_ext_list,h2,List.drop_drop,List.take_of_length_le (by rw[List.length_drop];omega)]
 ·rcases Nat.lt_or_eq_of_le (Nat.le_of_lt_succ hji)with g | g
  ·exact h3 j hj g
  ·subst g;exact e
theorem Lft.stop{l:List UInt8}{x:ByteArray}(h:Lft l x)(hb:∀ h0:0 < x.size,x[0]≠32):Rgt l x:=by
 obtain⟨i,h1,h2,h3⟩:=h;have hlen:x.size=l.length - i:=by rw[←ba_len,h2,List.length_drop]
 refine⟨i,l.length - i,by omega,by rw[h2,List.take_of_length_le (by rw[List.length_drop];exact Nat.le_refl _)],h3,fun j hj h=>by omega,fun hi _ => ?_⟩
 have:=hb (by omega)
 rw[ba_get]at this;simp only[h2,List.getElem_drop]at this;exact this
theorem Rgt.next{l:List UInt8}{x:ByteArray}(h:Rgt l x)(h0:0 < x.size)(hb:x[x.size - 1]'(by omega)=32):Rgt l (x.extract 0 (x.size - 1)):=by
 obtain⟨i,m,h1,h2,h3,h4,h5⟩:=h;have hlen:x.size=m:=by rw[←ba_len,h2,List.length_take,List.length_drop];omega
 have e:l[i+(m - 1)]'(by omega)=32:=by
  rw[←hb,ba_get];simp only[h2,List.getElem_take,List.getElem_drop,hlen]
 refine⟨i,m - 1,by omega,?_,h3,fun j hj hji => ?_,fun hi h=>h5 hi (by omega)⟩
 ·rw[ba_ext_list,h2,hlen,List.drop_zero,Nat.sub_zero,List.take_take,Nat.min_eq_left (by omega)]
 ·rcases Nat.lt_or_eq_of_le hji with g | g
  ·exact h4 j hj (by omega)
  ·subst g;exact e
theorem Rgt.stop{s x:ByteArray}(h:Rgt s.data.toList x)(hb:∀ h0:0 < x.size,x[x.size - 1]'(by omega)≠32):x=SC.trimS s:=by
 obtain⟨i,m,h1,h2,h3,h4,h5⟩:=h;have hlen:x.size=m:=by rw[←ba_len,h2,List.length_take,List.length_drop];omega
 refine ba_ext ?_
 show _=((Lib.trimB s.data.toList 32).toArray).toList
 rw[trim_is h1 h3 h4 h5 (fun h hm => ?_),h2]
 have:=hb (by omega)
 rw[ba_get]at this;simp only[h2,List.getElem_take,List.getElem_drop,hlen]at this
 simpa [Nat.add_sub_assoc (show 1≤m by omega)]using this
theorem Rgt.size{s x:ByteArray}(h:Rgt s.data.toList x):x.size≤s.size:=by
 obtain⟨i,m,h1,h2,-⟩:=h;have:=congrArg List.length h2;rw[ba_len,List.length_take,List.length_drop,ba_len]at this
 omega
theorem Lft.size{s x:ByteArray}(h:Lft s.data.toList x):x.size≤s.size:=by
 obtain⟨i,h1,h2,-⟩:=h;have:=congrArg List.length h2;rw[ba_len,List.length_drop,ba_len]at this
 omega
theorem rc_trim(v:BV.V)(xs:List BV.V)(A:Option Addr)(c:Nat)(w:World)(hr:BV.RowAt w w.heap.size A xs)(h0:0 < xs.length)(hv:xs[0]=v)(hs:v.s.size≤100000000) :
  Calls Tryz.prog 113 #[.string ⟨#[116,114,105,109]⟩,.slice A xs.length c] w (VR w (txtV (SC.trimS v.s)) (0)):=by
 obtain⟨b,off,W1,W2,rfl,CB⟩:=cb_make hr h0;rw[hv]at CB;obtain⟨a0,a1,a2⟩:=CB.hv.box.cells;obtain⟨r0,r1,r2⟩:=CB.hv.tail.box.cells;obtain⟨f0,f1,f2⟩:=CB.hv.tail.box.free;have d0:=CB.c0;have d1:=CB.c1;have d2:=CB.c2;have E1:=Hi CB.e1;have E2:=Hi CB.e2;have HZ1:=Hi CB.z1;have HH:=Hi CB.hv;have HL:Hid (0 < xs.length):=Hi h0;simp only[zW]at r0 r1 r2;have hz1:=CB.z1;clear hr hv h0;generalize xs.length=n at *;have h0z:(0:Int) < (n:Int):=by have:=HL.out;omega
 obtain⟨H,hH⟩:∃ H,H=w.heap.size:=⟨_,rfl⟩;have HLF:=Hi (Lft.start v.s);go_enter Tryz.func113,Tryz.ntmps113
 go_wp2_with (first | (rw[←E2.out]) | (rw[←E1.out]))
 go_loopw [7] (fun sv wr=>∃ x:ByteArray,sv = .string x∧x.size≤100000000∧Hid (Lft v.s.data.toList x)∧Hid (HV w [(w.heap.size+1,v),(w.heap.size,zW)] wr)) (fun sv _=>match sv with | .string b=>b.size | _=>0)
 case atStart=>exact⟨v.s,rfl,hs,HLF,HH⟩
 case round =>
  clear HLF;obtain⟨x,rfl,hxs,HX,HB⟩:=hrel;have OUT:Hid ((∀ h0:0 < x.size,x[0]≠32)→Hid (Rgt v.s.data.toList x)):=Hi fun h=>Hi (HX.out.stop h)
  by_cases hx0:0 < x.size
  ·have hxz:(0:Int) < (x.size:Int):=by omega
   by_cases hx1:x[0]=32
   ·have hb:((x[0].toNat:Int) == 32)=true:=by rw[hx1];rfl
    have HX':=Hi (HX.out.next hx0 hx1);have hes:(x.extract 1 x.size).size=x.size - 1:=by simp
    have HES:=Hi hes;have h1z:(1:Int)≤(x.size:Int):=by omega
    have h1n:1≤x.size:=hx0;clear hx1 hes OUT;go_wp2_with fail
    go_roundw
    case rel=>exact⟨_,rfl,by rw[HES.out];omega,HX',HB⟩
    case measure=>simp only[HES.out];omega
   ·have hb:((x[0].toNat:Int) == 32)=false:=by
     simp only[beq_eq_false_iff_ne];intro h;exact hx1 (UInt8.toNat_inj.1 (by show x[0].toNat=32;omega))
    have HR:=OUT.out (fun _=>hx1)
    clear hx1 OUT HX;go_wp2_with fail
    go_loopw [7] (fun sv wr=>∃ x:ByteArray,sv = .string x∧x.size≤100000000∧Hid (Rgt v.s.data.toList x)∧Hid (HV w [(w.heap.size+1,v),(w.heap.size,zW)] wr)) (fun sv _=>match sv with | .string b=>b.size | _=>0)
    case atStart=>exact⟨x,rfl,hxs,HR,HB⟩
    case round =>
     clear HR HB hxz hxs;obtain⟨y,rfl,hys,HY,HB⟩:=hrel;have OUT:Hid ((∀ h0:0 < y.size,y[y.size - 1]'(by omega)≠32)→Hid (y=SC.trimS v.s)):=Hi fun h=>Hi (HY.out.stop h)
     by_cases hy0:0 < y.size
     ·have hyz:(0:Int) < (y.size:Int):=by omega
      have hm1:y.size - 1 < y.size:=by omega
      have hsub:(y.size:Int) - 1=((y.size - 1:Nat):Int):=by omega
      have hsub2:((y.size - 1:Nat):Int) < (y.size:Int):=by omega
      have hsub3:IntKind.i64.wrap ((y.size:Int) - 1)=((y.size - 1:Nat):Int):=by rw[IntKind.wrap_i64];omega
      have hsub4:((y.size - 1:Nat):Int)≤(y.size:Int):=by omega
      by_cases hy1:y[y.size - 1]'hm1=32
      ·have hb:(((y[y.size - 1]'hm1).toNat:Int) == 32)=true:=by rw[hy1];rfl
       have HY':=Hi (HY.out.next hy0 hy1);have hes:(y.extract 0 (y.size - 1)).size=y.size - 1:=by simp
       have HES:=Hi hes;clear hy1 hes OUT;go_wp2_with fail
       go_roundw
       case rel=>exact⟨_,rfl,by rw[HES.out];omega,HY',HB⟩
       case measure=>simp only[HES.out];omega
      ·have hb:(((y[y.size - 1]'hm1).toNat:Int) == 32)=false:=by
        simp only[beq_eq_false_iff_ne];intro h;exact hy1 (UInt8.toNat_inj.1 (by show(y[y.size - 1]'hm1).toNat=32;omega))
       have HT:=OUT.out (fun _=>hy1)
       clear hy1 OUT HY;go_wp2_with fail;refine(rtext1R _ wr).mono ?_;rintro q w4 ⟨rfl,b4⟩;have H4:=Hi (HB.out.call b4);obtain⟨g0,g1,g2⟩:=H4.out.tail.box.cells;obtain⟨k0,k1,k2⟩:=H4.out.tail.box.free;simp only[zW]at g0 g1 g2;go_wp2_with fail;exact bodyPost_ret (v:= .tuple #[.agg #[.int .i64 3,.int .i64 0,.string y],.int .i64 0]) (by simp[results,Tryz.results113,go_sem,g0,g1,g2]) rfl ⟨by rw[HT.out];rfl,vset3 H4.out.below (Nat.le_refl _) _ _ _⟩
     ·have hyz:¬(0:Int) < (y.size:Int):=by omega
      have HT:=OUT.out (fun h=>absurd h hy0)
      clear OUT HY;go_wp2_with fail;refine(rtext1R _ wr).mono ?_;rintro q w4 ⟨rfl,b4⟩;have H4:=Hi (HB.out.call b4);obtain⟨g0,g1,g2⟩:=H4.out.tail.box.cells;obtain⟨k0,k1,k2⟩:=H4.out.tail.box.free;simp only[zW]at g0 g1 g2;go_wp2_with fail;exact bodyPost_ret (v:= .tuple #[.agg #[.int .i64 3,.int .i64 0,.string y],.int .i64 0]) (by simp[results,Tryz.results113,go_sem,g0,g1,g2]) rfl ⟨by rw[HT.out];rfl,vset3 H4.out.below (Nat.le_refl _) _ _ _⟩
  ·have hxz:¬(0:Int) < (x.size:Int):=by omega
   have HR:=OUT.out (fun h=>absurd h hx0)
   clear OUT HX;go_wp2_with fail
   go_loopw [7] (fun sv wr=>∃ x:ByteArray,sv = .string x∧x.size≤100000000∧Hid (Rgt v.s.data.toList x)∧Hid (HV w [(w.heap.size+1,v),(w.heap.size,zW)] wr)) (fun sv _=>match sv with | .string b=>b.size | _=>0)
   case atStart=>exact⟨x,rfl,hxs,HR,HB⟩
   case round =>
    clear HR HB hxz hxs;obtain⟨y,rfl,hys,HY,HB⟩:=hrel;have OUT:Hid ((∀ h0:0 < y.size,y[y.size - 1]'(by omega)≠32)→Hid (y=SC.trimS v.s)):=Hi fun h=>Hi (HY.out.stop h)
    by_cases hy0:0 < y.size
    ·have hyz:(0:Int) < (y.size:Int):=by omega
     have hm1:y.size - 1 < y.size:=by omega
     have hsub:(y.size:Int) - 1=((y.size - 1:Nat):Int):=by omega
     have hsub2:((y.size - 1:Nat):Int) < (y.size:Int):=by omega
     have hsub3:IntKind.i64.wrap ((y.size:Int) - 1)=((y.size - 1:Nat):Int):=by rw[IntKind.wrap_i64];omega
     have hsub4:((y.size - 1:Nat):Int)≤(y.size:Int):=by omega
     by_cases hy1:y[y.size - 1]'hm1=32
     ·have hb:(((y[y.size - 1]'hm1).toNat:Int) == 32)=true:=by rw[hy1];rfl
      have HY':=Hi (HY.out.next hy0 hy1);have hes:(y.extract 0 (y.size - 1)).size=y.size - 1:=by simp
      have HES:=Hi hes;clear hy1 hes OUT;go_wp2_with fail
      go_roundw
      case rel=>exact⟨_,rfl,by rw[HES.out];omega,HY',HB⟩
      case measure=>simp only[HES.out];omega
     ·have hb:(((y[y.size - 1]'hm1).toNat:Int) == 32)=false:=by
       simp only[beq_eq_false_iff_ne];intro h;exact hy1 (UInt8.toNat_inj.1 (by show(y[y.size - 1]'hm1).toNat=32;omega))
      have HT:=OUT.out (fun _=>hy1)
      clear hy1 OUT HY;go_wp2_with fail;refine(rtext1R _ wr).mono ?_;rintro q w4 ⟨rfl,b4⟩;have H4:=Hi (HB.out.call b4);obtain⟨g0,g1,g2⟩:=H4.out.tail.box.cells;obtain⟨k0,k1,k2⟩:=H4.out.tail.box.free;simp only[zW]at g0 g1 g2;go_wp2_with fail;exact bodyPost_ret (v:= .tuple #[.agg #[.int .i64 3,.int .i64 0,.string y],.int .i64 0]) (by simp[results,Tryz.results113,go_sem,g0,g1,g2]) rfl ⟨by rw[HT.out];rfl,vset3 H4.out.below (Nat.le_refl _) _ _ _⟩
    ·have hyz:¬(0:Int) < (y.size:Int):=by omega
     have HT:=OUT.out (fun h=>absurd h hy0)
     clear OUT HY;go_wp2_with fail;refine(rtext1R _ wr).mono ?_;rintro q w4 ⟨rfl,b4⟩;have H4:=Hi (HB.out.call b4);obtain⟨g0,g1,g2⟩:=H4.out.tail.box.cells;obtain⟨k0,k1,k2⟩:=H4.out.tail.box.free;simp only[zW]at g0 g1 g2;go_wp2_with fail;exact bodyPost_ret (v:= .tuple #[.agg #[.int .i64 3,.int .i64 0,.string y],.int .i64 0]) (by simp[results,Tryz.results113,go_sem,g0,g1,g2]) rfl ⟨by rw[HT.out];rfl,vset3 H4.out.below (Nat.le_refl _) _ _ _⟩
theorem rc_sign(v:BV.V)(xs:List BV.V)(A:Option Addr)(c:Nat)(w:World)(hr:BV.RowAt w w.heap.size A xs)(h0:0 < xs.length)(hv:xs[0]=v)(hk:v.k=2)(hsz:v.s=⟨#[]⟩) :
  Calls Tryz.prog 113 #[.string ⟨#[115,105,103,110]⟩,.slice A xs.length c] w (VR w (dSign v |>.2) (0)):=by
 obtain⟨b,off,W1,W2,rfl,CB⟩:=cb_make hr h0;rw[hv]at CB;obtain⟨a0,a1,a2⟩:=CB.hv.box.cells;obtain⟨r0,r1,r2⟩:=CB.hv.tail.box.cells;obtain⟨f0,f1,f2⟩:=CB.hv.tail.box.free;have d0:=CB.c0;have d1:=CB.c1;have d2:=CB.c2;have E1:=Hi CB.e1;have E2:=Hi CB.e2;have HZ1:=Hi CB.z1;have HH:=Hi CB.hv;have HL:Hid (0 < xs.length):=Hi h0;simp only[zW]at r0 r1 r2;have hz1:=CB.z1;clear hr hv h0;generalize xs.length=n at *;have h0z:(0:Int) < (n:Int):=by have:=HL.out;omega
 obtain⟨H,hH⟩:∃ H,H=w.heap.size:=⟨_,rfl⟩
 have HC:Hid (∀ W,Calls Tryz.prog 73 #[.agg #[.int .i64 v.k,.int .i64 v.i,.string v.s],.agg #[.int .i64 2,.int .i64 0,.string ⟨#[]⟩]] W fun e w'=>e = .returned (.int .i64 (BV.cmpI v.i 0))∧Below W.heap.size W w'):=Hi fun W=>by
  have:=BV.rcmpV_any v.k v.i 2 0 v.s ⟨#[]⟩ W
  rwa [show BV.cmpV v.k v.i v.s 2 0 ⟨#[]⟩=BV.cmpI v.i 0 by
   unfold BV.cmpV;rw[hk,hsz,if_pos ((BV.cmpI_ok.zero 2 2).2 rfl)]
   split
   ·rename_i h;rw[h];exact(BV.cmpS_ok.zero _ _).2 rfl
   ·rfl]at this
 show Calls Tryz.prog 113 _ w (VR w (nuV (BV.cmpI v.i 0)) 0)
 generalize BV.cmpI v.i 0=R at *;clear hk hsz;go_enter Tryz.func113,Tryz.ntmps113
 go_wp2_with (first | (rw[←E2.out]) | (rw[←E1.out]))
 have H1:=Hi HH.out.drew;have c0:=H1.out.box.cells.1;have c1:=H1.out.box.cells.2.1;have c2:=H1.out.box.cells.2.2
 go_region_with (first | (go_at_call 27;refine(SC.rint1_any 0 _).mono ?_;rintro q w5 ⟨rfl,b5⟩;have H5:=Hi (H1.out.call b5);obtain⟨d0,d1,d2⟩:=H5.out.box.cells;obtain⟨g0,g1,g2⟩:=H5.out.tail.box.cells;obtain⟨k0,k1,k2⟩:=H5.out.tail.box.free;simp only[zW]at g0 g1 g2) | (go_at_call 73;refine(HC.out _).mono ?_;rintro q w6 ⟨rfl,b6⟩;have H6:=Hi (H5.out.call b6);obtain⟨e0,e1,e2⟩:=H6.out.box.cells;obtain⟨g0,g1,g2⟩:=H6.out.tail.box.cells;obtain⟨k0,k1,k2⟩:=H6.out.tail.box.free;simp only[zW]at g0 g1 g2) | (go_at_call 27;refine(SC.rint1_any R _).mono ?_;rintro q w7 ⟨rfl,b7⟩;have H7:=Hi (H6.out.call b7);obtain⟨m0,m1,m2⟩:=H7.out.box.cells;obtain⟨g0,g1,g2⟩:=H7.out.tail.box.cells;obtain⟨k0,k1,k2⟩:=H7.out.tail.box.free;simp only[zW]at g0 g1 g2))
 all_goals go_wp2_with fail
 all_goals exact bodyPost_ret (v:= .tuple #[.agg #[.int .i64 2,.int .i64 R,.string ⟨#[]⟩],.int .i64 0]) (by simp[results,Tryz.results113,go_sem,g0,g1,g2]) rfl ⟨rfl,vset3 H7.out.below (Nat.le_refl _) _ _ _⟩
theorem rc_instr(v:BV.V)(xs:List BV.V)(A:Option Addr)(c:Nat)(w:World)(hr:BV.RowAt w w.heap.size A xs)(h0:0 < xs.length)(hv:xs[0]=v)(u:BV.V)(h1:1 < xs.length)(hu:xs[1]=u)(hs:v.s.size≤100000000)(hs2:u.s.size≤100000000) :
  Calls Tryz.prog 113 #[.string ⟨#[105,110,115,116,114]⟩,.slice A xs.length c] w (VR w (dInstr v u |>.2) (0)):=by
 obtain⟨b,off,W1,W2,rfl,CB⟩:=cb_make hr h0;rw[hv]at CB;have HR:=Hi (fun W (hb:Below W2.heap.size W2 W)=>(show BV.CellsAt W b (off+3) u from hu ▸ CB.row W hb 1 h1))
 obtain⟨a0,a1,a2⟩:=CB.hv.box.cells;obtain⟨r0,r1,r2⟩:=CB.hv.tail.box.cells;obtain⟨f0,f1,f2⟩:=CB.hv.tail.box.free;have d0:=CB.c0;have d1:=CB.c1;have d2:=CB.c2;have E1:=Hi CB.e1;have E2:=Hi CB.e2;have HZ1:=Hi CB.z1;have HH:=Hi CB.hv;have HL:Hid (0 < xs.length):=Hi h0;simp only[zW]at r0 r1 r2;have hz1:=CB.z1;have h1z:(1:Int) < (xs.length:Int):=by omega
 clear hu;clear hr hv h0 h1;generalize xs.length=n at *;have h0z:(0:Int) < (n:Int):=by have:=HL.out;omega
 obtain⟨H,hH⟩:∃ H,H=w.heap.size:=⟨_,rfl⟩;have HX:=Hi (fun W=>rat_txt v.s u.s hs hs2 W)
 have hge:=Lib.index_ge v.s.data.toList u.s.data.toList;have hle:=Lib.index_le v.s.data.toList u.s.data.toList;rw[ba_len]at hle
 show Calls Tryz.prog 113 _ w (VR w (nuV (Lib.index v.s.data.toList u.s.data.toList+1)) 0)
 generalize Lib.index v.s.data.toList u.s.data.toList=I at *;have hw1:IntKind.i64.wrap (I+1)=I+1:=by rw[IntKind.wrap_i64];omega
 have hw2:wrap64 (I+1)=I+1:=by unfold wrap64;omega
 go_enter Tryz.func113,Tryz.ntmps113
 go_wp2_with (first | (rw[←E2.out]) | (rw[←E1.out]))
 have H1:=Hi HH.out.drew;have c0:=H1.out.box.cells.1;have c1:=H1.out.box.cells.2.1;have c2:=H1.out.box.cells.2.2;have s2:=(HR.out _ ((Below.refl _ W2).drew)).2.2;have s2':W2.drew.cell? ⟨b,off+5,none⟩=some (.string u.s):=s2
 go_region_with (first | (go_at_call 154;refine(HX.out _).mono ?_;rintro q w5 ⟨rfl,b5⟩;have H5:=Hi (H1.out.call b5);obtain⟨d0,d1,d2⟩:=H5.out.box.cells;obtain⟨g0,g1,g2⟩:=H5.out.tail.box.cells;obtain⟨k0,k1,k2⟩:=H5.out.tail.box.free;simp only[zW]at g0 g1 g2) | (go_at_call 27;refine(SC.rint1_any (I+1) _).mono ?_;rintro q w7 ⟨rfl,b7⟩;have H7:=Hi (H5.out.call b7);obtain⟨m0,m1,m2⟩:=H7.out.box.cells;obtain⟨g0,g1,g2⟩:=H7.out.tail.box.cells;obtain⟨k0,k1,k2⟩:=H7.out.tail.box.free;simp only[zW]at g0 g1 g2))
 all_goals go_wp2_with fail
 all_goals exact bodyPost_ret (v:= .tuple #[.agg #[.int .i64 2,.int .i64 (I+1),.string ⟨#[]⟩],.int .i64 0]) (by simp[results,Tryz.results113,go_sem,g0,g1,g2]) rfl ⟨rfl,vset3 H7.out.below (Nat.le_refl _) _ _ _⟩
end Go.Proofs.YtcicpjgnpcnnmaaGreatDoor
