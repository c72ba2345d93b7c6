import Derived.Test.YtcicpjgnpcnnmaaGreatDoorQ13
import Derived.Test.YtcicpjgnpcnnmaaGreatDoorQ17
import Derived.Laws.BytesArg
import Derived.Laws.IdiomStrings
import Derived.Test.YtcicpjgnpcnnmaaGreatDoorQ15
set_option maxRecDepth 100000
set_option maxHeartbeats 8000000
namespace Go.Proofs.YtcicpjgnpcnnmaaGreatDoor.BV
end Go.Proofs.YtcicpjgnpcnnmaaGreatDoor.BV
namespace Go.Proofs.YtcicpjgnpcnnmaaGreatDoor.SC
open BV
open Go.RowKit
def noBI(v:V):Prop:=¬v.k=1∧¬v.k=2
theorem okJ{a b:V}(h:allOk [a,b]=true):okK [24,24,0] [a,b]=true↔noBI a∧noBI b:=by
 have ha:a.chk=0:=by unfold allOk at h;simp at h;exact h.1
 have hb:b.chk=0:=by unfold allOk at h;simp at h;exact h.2
 have ka:=kinds_of ha;have kb:=kinds_of hb;unfold okK noBI fitsK
 simp
 omega
theorem rjoin_bad(a b:V)(w:World)(hok:allOk [a,b]=false) :
  Calls Tryz.prog 117 #[.agg #[.int .i64 a.k,.int .i64 a.i,.string a.s],.agg #[.int .i64 b.k,.int .i64 b.i,.string b.s]] w fun e w'=>e = .returned (.tuple #[.agg #[.int .i64 (joV a b).k,.int .i64 (joV a b).i,.string (joV a b).s],.int .i64 (joE a b)])∧Below w.heap.size w w':=by
 rw[(jo_bad hok).1,(jo_bad hok).2];have HB:=Hi (two_boxes w a b);have HM:=Hi (fun W H hH=>rmay2_any a b W H hH)
 rw[hok]at HM;clear hok;go_enter Tryz.func117,Tryz.ntmps117;go_wp2_with fail;refine(HM.out _ _ (by simp)).mono ?_
 rintro e w1 ⟨rfl,b1,s1⟩;have P1:=Hi (HB.out.call (bele b1 (by simp)))
 clear b1;obtain⟨g0,g1,g2⟩:=P1.out.box.cells;obtain⟨f0,f1,f2⟩:=P1.out.box.free;simp only[zV]at g0 g1 g2;go_wp2_with fail;exact bodyPost_ret (v:= .tuple #[.agg #[.int .i64 0,.int .i64 0,.string ⟨#[]⟩],.int .i64 1]) (by simp[results,Tryz.results117,go_sem,g0,g1,g2]) rfl ⟨rfl,Below.set3 P1.out.below (by omega) _ _ _⟩
theorem rjoin_good(a b:V)(w:World)(ha:a.s.size≤140737488355328)(hb:b.s.size≤140737488355328)(hok:allOk [a,b]=true) :
  Calls Tryz.prog 117 #[.agg #[.int .i64 a.k,.int .i64 a.i,.string a.s],.agg #[.int .i64 b.k,.int .i64 b.i,.string b.s]] w fun e w'=>e = .returned (.tuple #[.agg #[.int .i64 (joV a b).k,.int .i64 (joV a b).i,.string (joV a b).s],.int .i64 (joE a b)])∧Below w.heap.size w w':=by
 have HB:=Hi (two_boxes w a b);have HM:=Hi (fun W H hH=>rmay2_any a b W H hH)
 rw[hok]at HM
 have HBAD:Hid (¬(noBI a∧noBI b)→20=joE a b∧zV=joV a b):=fun h=>by
  have h':okK [24,24,0] [a,b]=false:=by
   cases hq:okK [24,24,0] [a,b]
   ·rfl
   ·exact absurd ((okJ hok).1 hq) h
  exact⟨(jo_kind hok h').1.symm,(jo_kind hok h').2.symm⟩
 have HNUL:Hid (noBI a∧noBI b→nulB [a,b]=true→0=joE a b∧zV=joV a b):=fun h hn=>⟨(jo_null hok ((okJ hok).2 h) hn).1.symm,(jo_null hok ((okJ hok).2 h) hn).2.symm⟩
 have HTWO:Hid (noBI a∧noBI b→nulB [a,b]=false→¬a.k=b.k→20=joE a b∧zV=joV a b):=fun h hn hk=>⟨(jo_two hok ((okJ hok).2 h) hn hk).1.symm,(jo_two hok ((okJ hok).2 h) hn hk).2.symm⟩
 have HONE:Hid (noBI a∧noBI b→nulB [a,b]=false→a.k=b.k→0=joE a b∧(⟨a.k,0,a.s++b.s⟩:V)=joV a b):=fun h hn hk=>⟨(jo_one hok ((okJ hok).2 h) hn hk).1.symm,(jo_one hok ((okJ hok).2 h) hn hk).2.symm⟩
 generalize joE a b=E at *;generalize joV a b=R at *;clear hok;have HL:=Hi (fun(W:World) (H:Nat) (hH:W.heap.size=H)=>args_row2 hH a b)
 go_enter Tryz.func117,Tryz.ntmps117;go_wp2_with fail;refine(HM.out _ _ (by simp)).mono ?_
 rintro e w1 ⟨rfl,b1,s1⟩;have P1:=Hi (HB.out.call (bele b1 (by simp)))
 clear b1;obtain⟨c0,c1,c2⟩:=P1.out.tail.box.cells;obtain⟨d0,d1,d2⟩:=P1.out.tail.tail.box.cells;go_wp2_with fail;clear c0 c1 c2 d0 d1 d2
 go_loopw [18] (fun i wr=>(i = .int .i64 0∨(i = .int .i64 1∧noBI a)∨(i = .int .i64 2∧noBI a∧noBI b))∧Hid (HV w [(w.heap.size+2,zV),(w.heap.size+1,b),(w.heap.size,a)] wr)∧Hid (Args wr w1.heap.size [a,b])) (fun i _=>(2 - intOf i).toNat)
 case atStart=>exact⟨Or.inl rfl,P1.out.alloc _,HL.out w1 _ rfl⟩
 case round =>
  obtain⟨hi,HR,HA⟩:=hrel;have k0:wr.cell? ⟨w1.heap.size,0,none⟩=some (.int .i64 a.k):=HA.out.cell 0;have k1:wr.cell? ⟨w1.heap.size,1,none⟩=some (.int .i64 a.i):=HA.out.cell 1;have k2:wr.cell? ⟨w1.heap.size,2,none⟩=some (.string a.s):=HA.out.cell 2;have k3:wr.cell? ⟨w1.heap.size,3,none⟩=some (.int .i64 b.k):=HA.out.cell 3;have k4:wr.cell? ⟨w1.heap.size,4,none⟩=some (.int .i64 b.i):=HA.out.cell 4;have k5:wr.cell? ⟨w1.heap.size,5,none⟩=some (.string b.s):=HA.out.cell 5;rcases hi with rfl | ⟨rfl,hfa⟩ | ⟨rfl,hfa,hfb⟩
  ·skip
   skip
   by_cases hz:a.k=1
   ·have hz':(a.k == 1)=true:=by simpa using hz
    have HF:=Hi (show ¬noBI a from fun h=>h.1 hz)
    clear hz;have H2:=Hi (HR.out.alloc (.cells #[.int .i64 a.k,.int .i64 a.i,.string a.s] 26));obtain⟨g0,g1,g2⟩:=H2.out.box.cells;obtain⟨f0,f1,f2⟩:=H2.out.box.free;simp only[zV]at g0 g1 g2;go_wp2_with fail;obtain⟨q1,q2⟩:=HBAD.out (fun h=>HF.out h.1)
    exact bodyPost_ret (v:= .tuple #[.agg #[.int .i64 0,.int .i64 0,.string ⟨#[]⟩],.int .i64 20]) (by simp[results,Tryz.results117,go_sem,g0,g1,g2]) rfl ⟨ret_vx q2 q1,Below.set3 H2.out.below (by omega) _ _ _⟩
   ·have hz':(a.k == 1)=false:=by simpa using hz
    by_cases ht:a.k=2
    ·have ht':(a.k == 2)=true:=by simpa using ht
     have HF:=Hi (show ¬noBI a from fun h=>h.2 ht)
     clear hz ht;have H2:=Hi (HR.out.alloc (.cells #[.int .i64 a.k,.int .i64 a.i,.string a.s] 26));obtain⟨g0,g1,g2⟩:=H2.out.box.cells;obtain⟨f0,f1,f2⟩:=H2.out.box.free;simp only[zV]at g0 g1 g2;go_wp2_with fail;obtain⟨q1,q2⟩:=HBAD.out (fun h=>HF.out h.1)
     exact bodyPost_ret (v:= .tuple #[.agg #[.int .i64 0,.int .i64 0,.string ⟨#[]⟩],.int .i64 20]) (by simp[results,Tryz.results117,go_sem,g0,g1,g2]) rfl ⟨ret_vx q2 q1,Below.set3 H2.out.below (by omega) _ _ _⟩
    ·have ht':(a.k == 2)=false:=by simpa using ht
     have HF:=Hi (show noBI a from⟨hz,ht⟩)
     clear hz ht;go_wp2_with fail
     go_roundw
     case rel=>exact⟨Or.inr (Or.inl ⟨rfl,HF.out⟩),HR.out.alloc _,HA.out.later ((Below.refl _ wr).alloc (Nat.le_refl _) _)⟩
     case measure=>simp[intOf]
  ·have HFA:=Hi hfa
   clear hfa
   by_cases hz:b.k=1
   ·have hz':(b.k == 1)=true:=by simpa using hz
    have HF:=Hi (show ¬noBI b from fun h=>h.1 hz)
    clear hz;have H2:=Hi (HR.out.alloc (.cells #[.int .i64 b.k,.int .i64 b.i,.string b.s] 26));obtain⟨g0,g1,g2⟩:=H2.out.box.cells;obtain⟨f0,f1,f2⟩:=H2.out.box.free;simp only[zV]at g0 g1 g2;go_wp2_with fail;obtain⟨q1,q2⟩:=HBAD.out (fun h=>HF.out h.2)
    exact bodyPost_ret (v:= .tuple #[.agg #[.int .i64 0,.int .i64 0,.string ⟨#[]⟩],.int .i64 20]) (by simp[results,Tryz.results117,go_sem,g0,g1,g2]) rfl ⟨ret_vx q2 q1,Below.set3 H2.out.below (by omega) _ _ _⟩
   ·have hz':(b.k == 1)=false:=by simpa using hz
    by_cases ht:b.k=2
    ·have ht':(b.k == 2)=true:=by simpa using ht
     have HF:=Hi (show ¬noBI b from fun h=>h.2 ht)
     clear hz ht;have H2:=Hi (HR.out.alloc (.cells #[.int .i64 b.k,.int .i64 b.i,.string b.s] 26));obtain⟨g0,g1,g2⟩:=H2.out.box.cells;obtain⟨f0,f1,f2⟩:=H2.out.box.free;simp only[zV]at g0 g1 g2;go_wp2_with fail;obtain⟨q1,q2⟩:=HBAD.out (fun h=>HF.out h.2)
     exact bodyPost_ret (v:= .tuple #[.agg #[.int .i64 0,.int .i64 0,.string ⟨#[]⟩],.int .i64 20]) (by simp[results,Tryz.results117,go_sem,g0,g1,g2]) rfl ⟨ret_vx q2 q1,Below.set3 H2.out.below (by omega) _ _ _⟩
    ·have ht':(b.k == 2)=false:=by simpa using ht
     have HF:=Hi (show noBI b from⟨hz,ht⟩)
     clear hz ht;go_wp2_with fail
     go_roundw
     case rel=>exact⟨Or.inr (Or.inr ⟨rfl,HFA.out,HF.out⟩),HR.out.alloc _,HA.out.later ((Below.refl _ wr).alloc (Nat.le_refl _) _)⟩
     case measure=>simp[intOf]
  ·have HFF:=Hi (And.intro hfa hfb)
   clear hfa hfb k0 k1 k2 k3 k4 k5;obtain⟨d0,d1,d2⟩:=HR.out.tail.tail.box.cells;obtain⟨c0,c1,c2⟩:=HR.out.tail.box.cells;obtain⟨g0,g1,g2⟩:=HR.out.box.cells;obtain⟨f0,f1,f2⟩:=HR.out.box.free;simp only[zV]at g0 g1 g2;cases hza:(a.k == 0)
   ·cases hzb:(b.k == 0)
    ·by_cases hkk:a.k=b.k
     ·have HN:=Hi (HONE.out HFF.out (by simp[nulB,hza,hzb]) hkk)
      have hkk':(a.k != b.k)=false:=by simpa using hkk
      clear hkk;go_wp2_with fail;exact bodyPost_ret (v:= .tuple #[.agg #[.int .i64 a.k,.int .i64 0,.string (a.s++b.s)],.int .i64 0]) (by simp[results,Tryz.results117,go_sem,g0,g1,g2]) rfl ⟨ret_vx (u:=⟨a.k,0,a.s++b.s⟩) HN.out.2 HN.out.1,Below.set3 HR.out.below (by omega) _ _ _⟩
     ·have HN:=Hi (HTWO.out HFF.out (by simp[nulB,hza,hzb]) hkk)
      have hkk':(a.k != b.k)=true:=by simpa using hkk
      clear hkk;go_wp2_with fail;exact bodyPost_ret (v:= .tuple #[.agg #[.int .i64 0,.int .i64 0,.string ⟨#[]⟩],.int .i64 20]) (by simp[results,Tryz.results117,go_sem,g0,g1,g2]) rfl ⟨ret_vx HN.out.2 HN.out.1,Below.set3 HR.out.below (by omega) _ _ _⟩
    ·have HN:=Hi (HNUL.out HFF.out (by simp[nulB,hza,hzb]))
     go_wp2_with fail;exact bodyPost_ret (v:= .tuple #[.agg #[.int .i64 0,.int .i64 0,.string ⟨#[]⟩],.int .i64 0]) (by simp[results,Tryz.results117,go_sem,g0,g1,g2]) rfl ⟨ret_vx HN.out.2 HN.out.1,Below.set3 HR.out.below (by omega) _ _ _⟩
   ·have HN:=Hi (HNUL.out HFF.out (by simp[nulB,hza]))
    go_wp2_with fail;exact bodyPost_ret (v:= .tuple #[.agg #[.int .i64 0,.int .i64 0,.string ⟨#[]⟩],.int .i64 0]) (by simp[results,Tryz.results117,go_sem,g0,g1,g2]) rfl ⟨ret_vx HN.out.2 HN.out.1,Below.set3 HR.out.below (by omega) _ _ _⟩
theorem rjoin_any(a b:V)(w:World)(ha:a.s.size≤140737488355328)(hb:b.s.size≤140737488355328) :
  Calls Tryz.prog 117 #[.agg #[.int .i64 a.k,.int .i64 a.i,.string a.s],.agg #[.int .i64 b.k,.int .i64 b.i,.string b.s]] w fun e w'=>e = .returned (.tuple #[.agg #[.int .i64 (joV a b).k,.int .i64 (joV a b).i,.string (joV a b).s],.int .i64 (joE a b)])∧Below w.heap.size w w':=by
 cases hok:allOk [a,b]
 ·exact rjoin_bad a b w hok
 ·exact rjoin_good a b w ha hb hok
end Go.Proofs.YtcicpjgnpcnnmaaGreatDoor.SC
namespace Go.Proofs.YtcicpjgnpcnnmaaGreatDoor.BV
end Go.Proofs.YtcicpjgnpcnnmaaGreatDoor.BV
namespace Go.Proofs.YtcicpjgnpcnnmaaGreatDoor.LK
open BV
open Go.RowKit
end Go.Proofs.YtcicpjgnpcnnmaaGreatDoor.LK
namespace Go.Proofs.YtcicpjgnpcnnmaaGreatDoor.BV
end Go.Proofs.YtcicpjgnpcnnmaaGreatDoor.BV
namespace Go.Proofs.YtcicpjgnpcnnmaaGreatDoor.LK
open BV
open Go.RowKit
end Go.Proofs.YtcicpjgnpcnnmaaGreatDoor.LK
namespace Go.Proofs.YtcicpjgnpcnnmaaGreatDoor.BV
end Go.Proofs.YtcicpjgnpcnnmaaGreatDoor.BV
namespace Go.Proofs.YtcicpjgnpcnnmaaGreatDoor.LK
open BV
open Go.RowKit
theorem sp_cases{x:UInt8}:sp x=true→(x.toNat:Int)=37∨(x.toNat:Int)=95∨(x.toNat:Int)=92:=by
 intro h;rcases sp_iff.1 h with rfl | rfl | rfl <;> simp
end Go.Proofs.YtcicpjgnpcnnmaaGreatDoor.LK
namespace Go.Proofs.YtcicpjgnpcnnmaaGreatDoor.BV
end Go.Proofs.YtcicpjgnpcnnmaaGreatDoor.BV
namespace Go.Proofs.YtcicpjgnpcnnmaaGreatDoor.LK
open BV
open Go.RowKit
end Go.Proofs.YtcicpjgnpcnnmaaGreatDoor.LK
namespace Go.Proofs.YtcicpjgnpcnnmaaGreatDoor.BV
end Go.Proofs.YtcicpjgnpcnnmaaGreatDoor.BV
namespace Go.Proofs.YtcicpjgnpcnnmaaGreatDoor.LK
open BV
open Go.RowKit
end Go.Proofs.YtcicpjgnpcnnmaaGreatDoor.LK
namespace Go.Proofs.YtcicpjgnpcnnmaaGreatDoor.BV
end Go.Proofs.YtcicpjgnpcnnmaaGreatDoor.BV
namespace Go.Proofs.YtcicpjgnpcnnmaaGreatDoor.LK
open BV
open Go.RowKit
end Go.Proofs.YtcicpjgnpcnnmaaGreatDoor.LK
namespace Go.Proofs.YtcicpjgnpcnnmaaGreatDoor.BV
end Go.Proofs.YtcicpjgnpcnnmaaGreatDoor.BV
namespace Go.Proofs.YtcicpjgnpcnnmaaGreatDoor.LK
open BV
open Go.RowKit
theorem info42:(Tryz.prog.info? 181).map (fun i=>(i.zero,i.size,i.bytes))=some (some (.agg #[.bool false,.bool false,.int .u8 0]),3,3):=by kernel_rfl
def p3(u:Int):List Value:=[.bool (u == -2),.bool (u == -1),.int .u8 (max u 0)]
theorem p3_many:p3 (-2) = [.bool true,.bool false,.int .u8 0]:=rfl
theorem p3_one:p3 (-1) = [.bool false,.bool true,.int .u8 0]:=rfl
theorem p3_lit(x:UInt8):p3 (x.toNat:Int) = [.bool false,.bool false,.int .u8 x.toNat]:=by
 unfold p3;rw[show((x.toNat:Int) == -2)=false by rw[beq_eq_false_iff_ne];omega,show((x.toNat:Int) == -1)=false by rw[beq_eq_false_iff_ne];omega,show max (x.toNat:Int) 0=x.toNat by omega]
def fl(us:List Int):List Value:=us.flatMap p3
theorem fl_snoc(us:List Int)(u:Int):fl us++p3 u=fl (us ++ [u]):=by simp[fl]
theorem fl_get:∀ (us:List Int)(j t:Nat)(hj:j < us.length),t < 3→(fl us)[j*3+t]? = (p3 us[j])[t]?
 | [],j,t,hj,_=>by simp at hj
 | a::l,0,t,_,ht=>by
  show(p3 a++fl l)[0*3+t]? = _
  rw[List.getElem?_append_left (by simp[p3];omega)]
  simp
 | a::l,j+1,t,hj,ht=>by
  show(p3 a++fl l)[(j+1)*3+t]? = _
  rw[List.getElem?_append_right (by simp[p3];omega)]
  rw[show(j+1)*3+t - (p3 a).length=j*3+t by simp[p3];omega,fl_get l j t (by simpa using hj) ht]
  rfl
def PAt(w:World)(A:Option Addr)(us:List Int):Prop:=0 < us.length→∃ b off,A=some ⟨b,off,none⟩∧b < w.heap.size∧∀ j (h:j < us.length),w.cell? ⟨b,off+j*3,none⟩=some (.bool (us[j] == -2))∧w.cell? ⟨b,off+j*3+1,none⟩=some (.bool (us[j] == -1))∧w.cell? ⟨b,off+j*3+2,none⟩=some (.int .u8 (max us[j] 0))
theorem PAt.later{w w':World}{A:Option Addr}{us:List Int}(h:PAt w A us)(hb:Below w.heap.size w w'):PAt w' A us:=fun h0=>by
 obtain⟨b,off,hA,hlt,hc⟩:=h h0;exact⟨b,off,hA,Nat.lt_of_lt_of_le hlt hb.size,fun j hj=>⟨(hb.cell (p:=⟨b,_,none⟩) hlt).trans (hc j hj).1,(hb.cell (p:=⟨b,_,none⟩) hlt).trans (hc j hj).2.1,(hb.cell (p:=⟨b,_,none⟩) hlt).trans (hc j hj).2.2⟩⟩
theorem PAt.nil{w:World}{A:Option Addr}{us:List Int}(h:us = []):PAt w A us:=fun h0=>by rw[h]at h0;simp at h0
theorem pat_of{w:World}{B:Nat}{v:Value}{us:List Int}(h:w.ownsRow B 181 3 v us.length (fl us)):∃ A c,v = .slice A us.length c∧PAt w A us:=by
 rcases h.2 with ⟨hv,h0⟩ | ⟨g,cap,cur,hv,_,hg,hn,_⟩
 ·exact⟨none,0,by rw[hv,h0],PAt.nil (List.eq_nil_of_length_eq_zero h0)⟩
 ·refine⟨some ⟨g,0,none⟩,cap,hv,fun _=>⟨g,0,rfl,(Array.getElem?_eq_some_iff.1 hg).1,fun j hj => ?_⟩⟩
  have key:∀ t,t < 3→∀ u,(p3 us[j])[t]? = some u→w.cell? ⟨g,0+(j*3+t),none⟩=some u:=by
   intro t ht u hu;have:=h.cells (g:=g) (by rw[hv];rfl) (j*3+t) u (by rw[fl_get us j t hj ht];exact hu)
   rwa [WideShapes.add_plain]at this
  exact⟨key 0 (by omega) _ rfl,key 1 (by omega) _ rfl,key 2 (by omega) _ rfl⟩
def PcsPost(l:List UInt8)(w:World)(e:Ending)(w':World):Prop :=
 ((rd l=none∧e = .returned (.tuple #[.slice none 0 0,.bool false]))∨∃ us A c,rd l=some us∧e = .returned (.tuple #[.slice A us.length c,.bool true])∧PAt w' A us)∧Below w.heap.size w w'
theorem cells_new(w:World)(a b c:Value)(T:TypeId):∀ j u,[a,b,c][j]? = some u→(w.alloc (.cells #[a,b,c] T)).cell? ((⟨w.heap.size,0,none⟩:Addr).add j)=some u:=by
 intro j u hj
 match j,hj with
 | 0,hj=>simp at hj;subst hj;simp[Addr.add]
 | 1,hj=>simp at hj;subst hj;simp[Addr.add]
 | 2,hj=>simp at hj;subst hj;simp[Addr.add]
theorem three_cells(a b:Bool)(n:Int):∀ u∈[Value.bool a,Value.bool b,Value.int .u8 n],u.oneCell'=true:=by
 intro u hu
 simp at hu
 rcases hu with rfl | rfl | rfl <;> rfl
theorem own3_step{w w1 w2:World}{B:Nat}{v v':Value}{us:List Int}{u:Int}{xs:List Value}{o:Obj}(hx:p3 u=xs)(hB:Below B w w1)(hBw:B≤w1.heap.size)(hown:w1.ownsRow B 181 3 v us.length (fl us))(hown':w2.ownsRow B 181 3 v' (us.length+1) (fl us++xs))(hgrow:(w1.alloc o).grownBy w2 v.ownBlock) :
  w2.ownsRow B 181 3 v' (us ++ [u]).length (fl (us ++ [u]))∧Below B w w2 :=
 ⟨by rw[←fl_snoc,←len_snoc,hx];exact hown',(hB.alloc hBw _).grown hgrow (by simp;omega) (fun k hk=>(hown.lt k hk).1)⟩
theorem bne_byte2{x:UInt8}{n:Nat}(hn:n < 256)(h:x≠UInt8.ofNat n):((x.toNat:Int) != (n:Int))=true:=by
 have:=bne_byte hn h;rw[bne,this];rfl
theorem pieces_any(s:ByteArray)(w:World)(hs:s.size≤100000000) :
  Calls Tryz.prog 156 #[.string s] w (PcsPost s.data.toList w):=by
 obtain⟨i0,hi,hz0,hz1,hz2⟩:=info_parts info42;have HL:Hid (s.data.toList.length=s.size):=size_list s;go_enter Tryz.func156,Tryz.ntmps156;go_wp2_with fail
 go_loopg [4,5] s.size (fun g s4 s5 wx=>∃ (k:Nat) (us:List Int),k+g=s.size∧s5 = .int .i64 k∧us.length≤k∧Hid (Rd s.data.toList k us)∧Hid (wx.ownsRow w.heap.size 181 3 s4 us.length (fl us))∧Below w.heap.size w wx)
 case atStart=>exact⟨0,[],by omega,rfl,Nat.le_refl _,Rd.start _,World.ownsRow_nil _ _ _ _,Below.refl _ _⟩
 case round =>
  obtain⟨k,us,hkg,rfl,hul,HR,HO,hb⟩:=hrel;have hBw:=hb.size;cases gk with
  | zero =>
   have hkz:¬((k:Int) < (s.size:Int)):=by omega
   obtain⟨A,c,rfl,hu⟩:=pat_of HO.out;go_wp2_with fail
   go_ret2
   exact⟨Or.inr ⟨us,A,c,HR.out.done (by rw[HL.out];omega),rfl,hu⟩,hb⟩
  | succ g =>
   have hkz:(k:Int) < (s.size:Int):=by omega
   have hkl:k < s.data.toList.length:=by rw[HL.out];omega
   obtain⟨x,hx⟩:∃ x,x=s[k]'(by omega):=⟨_,rfl⟩
   have HX:Hid (s.data.toList[k]=x):=hx.symm
   by_cases h1:x=37
   ·have e1:(s[k]'(by omega)).toNat=37:=by rw[←hx,h1];rfl
    rw[h1]at HX;clear hx h1
    go_wp2_with (at_builtin;refine wpList_append_own _ rfl _ _ 177 rfl w.heap.size 181 i0 (.agg #[.bool false,.bool false,.int .u8 0]) 3 3 Tryz.underlying177 hi hz0 hz1 hz2 rfl (by decide) _ _ _ rfl (HO.out.alloc _) ⟨wr.heap.size,0,none⟩ 1 1 [.bool true,.bool false,.int .u8 0] rfl rfl (cells_new _ _ _ _ _) (three_cells _ _ _) (by unfold maxLen;omega) (by omega) (by simp;omega) ?_)
    intro v' w2 hown' hgrow _;obtain⟨ho2,hb2⟩:=own3_step p3_many hb hBw HO.out hown' hgrow;have HO2:=Hi ho2;clear ho2 hown' hgrow;go_wp2_with fail
    go_roundg g
    case measure=>omega
    case rel=>exact⟨k+1,_,by omega,by go_num,by simp;omega,HR.out.many hkl HX.out,HO2.out,hb2⟩
   ·by_cases h2:x=95
    ·have e1:(s[k]'(by omega)).toNat=95:=by rw[←hx,h2];rfl
     rw[h2]at HX;clear hx h1 h2
     go_wp2_with (at_builtin;refine wpList_append_own _ rfl _ _ 177 rfl w.heap.size 181 i0 (.agg #[.bool false,.bool false,.int .u8 0]) 3 3 Tryz.underlying177 hi hz0 hz1 hz2 rfl (by decide) _ _ _ rfl (HO.out.alloc _) ⟨wr.heap.size,0,none⟩ 1 1 [.bool false,.bool true,.int .u8 0] rfl rfl (cells_new _ _ _ _ _) (three_cells _ _ _) (by unfold maxLen;omega) (by omega) (by simp;omega) ?_)
     intro v' w2 hown' hgrow _;obtain⟨ho2,hb2⟩:=own3_step p3_one hb hBw HO.out hown' hgrow;have HO2:=Hi ho2;clear ho2 hown' hgrow;go_wp2_with fail
     go_roundg g
     case measure=>omega
     case rel=>exact⟨k+1,_,by omega,by go_num,by simp;omega,HR.out.one hkl HX.out,HO2.out,hb2⟩
    ·by_cases h3:x=92
     ·have e1:(s[k]'(by omega)).toNat=92:=by rw[←hx,h3];rfl
      rw[h3]at HX;clear hx h1 h2 h3
      by_cases h4:k+1=s.size
      ·have e4:((k:Int)+1 == (s.size:Int))=true:=by rw[beq_iff_eq];omega
       have HB:=Hi (HR.out.cut (by rw[HL.out];exact h4) HX.out)
       clear h4;go_wp2_with fail
       go_ret2
       exact⟨Or.inl ⟨HB.out,rfl⟩,hb⟩
      ·have hk1:k+1 < s.size:=by omega
       have e4:((k:Int)+1 == (s.size:Int))=false:=by rw[beq_eq_false_iff_ne];omega
       have hkl1:k+1 < s.data.toList.length:=by rw[HL.out];omega
       obtain⟨y,hy⟩:∃ y,y=s[k+1]'(by omega):=⟨_,rfl⟩
       have HY:Hid (s.data.toList[k+1]=y):=hy.symm;clear h4;cases hsp:sp y
       ·have HB:=Hi (HR.out.bad hkl1 HX.out (by rw[HY.out];exact hsp))
        have h':¬(y=37∨y=95∨y=92):=by rw[←sp_iff,hsp];decide
        have f1:((y.toNat:Int) != 37)=true:=bne_byte2 (x:=y) (n:=37) (by decide) fun e=>h' (Or.inl e)
        have f2:((y.toNat:Int) != 95)=true:=bne_byte2 (x:=y) (n:=95) (by decide) fun e=>h' (Or.inr (Or.inl e))
        have f3:((y.toNat:Int) != 92)=true:=bne_byte2 (x:=y) (n:=92) (by decide) fun e=>h' (Or.inr (Or.inr e))
        clear hsp h';subst hy;go_wp2_with fail
        go_ret2
        exact⟨Or.inl ⟨HB.out,rfl⟩,hb⟩
       ·have HE:=Hi (HR.out.esc hkl1 HX.out (by rw[HY.out];exact hsp))
        have hc:=sp_cases hsp;clear hsp;subst hy;rcases hc with hc | hc | hc
        ·have HE3:Hid (p3 ((s[k+1]'(by omega)).toNat:Int) = [.bool false,.bool false,.int .u8 37]):=by show _=_;rw[p3_lit,hc]
         go_wp2_with (at_builtin;refine wpList_append_own _ rfl _ _ 177 rfl w.heap.size 181 i0 (.agg #[.bool false,.bool false,.int .u8 0]) 3 3 Tryz.underlying177 hi hz0 hz1 hz2 rfl (by decide) _ _ _ rfl (HO.out.alloc _) ⟨wr.heap.size,0,none⟩ 1 1 [.bool false,.bool false,.int .u8 37] rfl rfl (cells_new _ _ _ _ _) (three_cells _ _ _) (by unfold maxLen;omega) (by omega) (by simp;omega) ?_)
         intro v' w2 hown' hgrow _;obtain⟨ho2,hb2⟩:=own3_step HE3.out hb hBw HO.out hown' hgrow;have HO2:=Hi ho2;clear ho2 hown' hgrow;go_wp2_with fail
         go_roundg (g - 1)
         case measure=>omega
         case rel=>exact⟨k+1+1,_,by omega,by go_num,by simp;omega,HE.out,HO2.out,hb2⟩
        ·have HE3:Hid (p3 ((s[k+1]'(by omega)).toNat:Int) = [.bool false,.bool false,.int .u8 95]):=by show _=_;rw[p3_lit,hc]
         go_wp2_with (at_builtin;refine wpList_append_own _ rfl _ _ 177 rfl w.heap.size 181 i0 (.agg #[.bool false,.bool false,.int .u8 0]) 3 3 Tryz.underlying177 hi hz0 hz1 hz2 rfl (by decide) _ _ _ rfl (HO.out.alloc _) ⟨wr.heap.size,0,none⟩ 1 1 [.bool false,.bool false,.int .u8 95] rfl rfl (cells_new _ _ _ _ _) (three_cells _ _ _) (by unfold maxLen;omega) (by omega) (by simp;omega) ?_)
         intro v' w2 hown' hgrow _;obtain⟨ho2,hb2⟩:=own3_step HE3.out hb hBw HO.out hown' hgrow;have HO2:=Hi ho2;clear ho2 hown' hgrow;go_wp2_with fail
         go_roundg (g - 1)
         case measure=>omega
         case rel=>exact⟨k+1+1,_,by omega,by go_num,by simp;omega,HE.out,HO2.out,hb2⟩
        ·have HE3:Hid (p3 ((s[k+1]'(by omega)).toNat:Int) = [.bool false,.bool false,.int .u8 92]):=by show _=_;rw[p3_lit,hc]
         go_wp2_with (at_builtin;refine wpList_append_own _ rfl _ _ 177 rfl w.heap.size 181 i0 (.agg #[.bool false,.bool false,.int .u8 0]) 3 3 Tryz.underlying177 hi hz0 hz1 hz2 rfl (by decide) _ _ _ rfl (HO.out.alloc _) ⟨wr.heap.size,0,none⟩ 1 1 [.bool false,.bool false,.int .u8 92] rfl rfl (cells_new _ _ _ _ _) (three_cells _ _ _) (by unfold maxLen;omega) (by omega) (by simp;omega) ?_)
         intro v' w2 hown' hgrow _;obtain⟨ho2,hb2⟩:=own3_step HE3.out hb hBw HO.out hown' hgrow;have HO2:=Hi ho2;clear ho2 hown' hgrow;go_wp2_with fail
         go_roundg (g - 1)
         case measure=>omega
         case rel=>exact⟨k+1+1,_,by omega,by go_num,by simp;omega,HE.out,HO2.out,hb2⟩
     ·have e1:=bne_byte (n:=37) (by decide) h1
      have e2:=bne_byte (n:=95) (by decide) h2
      have e3:((x.toNat:Int) != 92)=true:=bne_byte2 (n:=92) (by decide) h3
      have HE:=Hi (HR.out.lit hkl (by rw[HX.out];exact h1) (by rw[HX.out];exact h2) (by rw[HX.out];exact h3))
      clear h1 h2 h3;subst hx
      go_wp2_with (at_builtin;refine wpList_append_own _ rfl _ _ 177 rfl w.heap.size 181 i0 (.agg #[.bool false,.bool false,.int .u8 0]) 3 3 Tryz.underlying177 hi hz0 hz1 hz2 rfl (by decide) _ _ _ rfl (HO.out.alloc _) ⟨wr.heap.size,0,none⟩ 1 1 [.bool false,.bool false,.int .u8 (s[k]'(by omega)).toNat] rfl rfl (cells_new _ _ _ _ _) (three_cells _ _ _) (by unfold maxLen;omega) (by omega) (by simp;omega) ?_)
      intro v' w2 hown' hgrow _;obtain⟨ho2,hb2⟩:=own3_step (p3_lit _) hb hBw HO.out hown' hgrow;have HO2:=Hi ho2;clear ho2 hown' hgrow;go_wp2_with fail
      go_roundg g
      case measure=>omega
      case rel=>exact⟨k+1,_,by omega,by go_num,by simp;omega,HE.out,HO2.out,hb2⟩
end Go.Proofs.YtcicpjgnpcnnmaaGreatDoor.LK
namespace Go.Proofs.YtcicpjgnpcnnmaaGreatDoor.BV
end Go.Proofs.YtcicpjgnpcnnmaaGreatDoor.BV
namespace Go.Proofs.YtcicpjgnpcnnmaaGreatDoor.LK
open BV
open Go.RowKit
theorem pieces_none(s:ByteArray)(w:World)(hs:s.size≤100000000)(h:rd s.data.toList=none) :
  Calls Tryz.prog 156 #[.string s] w fun e w'=>e = .returned (.tuple #[.slice none 0 0,.bool false])∧Below w.heap.size w w' :=
 (pieces_any s w hs).mono fun e w' ⟨h1,h2⟩=>by
  rcases h1 with ⟨_,h1⟩ | ⟨us,A,c,h1,_⟩
  ·exact⟨h1,h2⟩
  ·rw[h]at h1;cases h1
def Pcs(us:List Int)(w:World)(e:Ending)(w':World):Prop:=∃ A c,e = .returned (.tuple #[.slice A us.length c,.bool true])∧PAt w' A us∧Below w.heap.size w w'
theorem pieces_some(s:ByteArray)(us:List Int)(w:World)(hs:s.size≤100000000)(h:rd s.data.toList=some us) :
  Calls Tryz.prog 156 #[.string s] w (Pcs us w) :=
 (pieces_any s w hs).mono fun e w' ⟨h1,h2⟩=>by
  rcases h1 with ⟨h1,_⟩ | ⟨us',A,c,h1,he,hu⟩
  ·rw[h]at h1;cases h1
  ·rw[h]at h1
   obtain rfl:=Option.some.inj h1;exact⟨A,c,he,hu,h2⟩
end Go.Proofs.YtcicpjgnpcnnmaaGreatDoor.LK
namespace Go.Proofs.YtcicpjgnpcnnmaaGreatDoor.BV
end Go.Proofs.YtcicpjgnpcnnmaaGreatDoor.BV
namespace Go.Proofs.YtcicpjgnpcnnmaaGreatDoor.LK
open BV
open Go.RowKit
theorem info4:(Tryz.prog.info? 4).map (fun i=>(i.zero,i.size,i.bytes))=some (some (.bool false),1,1):=by kernel_rfl
def bl(bs:List Bool):List Value:=bs.map Value.bool
def BB(w:World)(g:Nat)(bs:List Bool):Prop:=w.heap[g]? = some (.cells (bl bs).toArray 4 (0,0))
theorem BB.cell{w:World}{g:Nat}{bs:List Bool}(h:BB w g bs)(k:Nat)(hk:k < bs.length):w.cell? ⟨g,k,none⟩=some (.bool bs[k]):=by
 rw[Lib.cell_of_heap h];simp[bl,hk]
theorem BB.free{w:World}{g:Nat}{bs:List Bool}(h:BB w g bs)(k:Nat):w.frozen? ⟨g,k,none⟩=false:=Lib.frozen_of_heap h k
theorem BB.lt{w:World}{g:Nat}{bs:List Bool}(h:BB w g bs):g < w.heap.size:=(Array.getElem?_eq_some_iff.1 h).1
theorem BB.set{w:World}{g:Nat}{bs:List Bool}(h:BB w g bs)(k:Nat)(b:Bool):BB (w.setCell ⟨g,k,none⟩ (.bool b)) g (bs.set k b):=by
 unfold BB;rw[Lib.heap_setCell_same h _]
 simp[bl,List.map_set]
theorem heap_other{w:World}{g g' k:Nat}{v:Value}(hg:g≠g'):(w.setCell ⟨g',k,none⟩ v).heap[g]? = w.heap[g]? := Below.heap_setCell w _ _ g hg
theorem BB.other{w:World}{g g' k:Nat}{v:Value}{bs:List Bool}(h:BB w g bs)(hg:g≠g'):BB (w.setCell ⟨g',k,none⟩ v) g bs:=(heap_other hg).trans h
theorem BB.below{w w':World}{B g:Nat}{bs:List Bool}(h:BB w g bs)(hb:Below B w w')(hg:g < B):BB w' g bs:=(hb.block g hg).trans h
theorem bb_made{w:World}{B g n:Nat}(h:w.ownsRow B 4 1 (.slice (some ⟨g,0,none⟩) n n) n (madeCells #[Value.bool false] n).toList):BB w g (List.replicate n false):=by
 rcases h.2 with ⟨hv,_⟩ | ⟨g',cap,cur,hv,_,hg,hn,_,hs,ht⟩
 ·cases hv
 ·injection hv with e1 e2 e3
  simp at e1
  subst e1 e3;unfold BB;rw[hg]
  have hc:cur=(bl (List.replicate n false)).toArray:=by
   apply Array.toList_inj.1
   rw[List.take_of_length_le (by simp;omega)]at ht
   rw[ht]
   apply List.ext_getElem
   ·simp[bl,size_madeCells]
   ·intro i h1 h2
    simp[madeCells,bl,Nat.mod_one]
  rw[hc]
def XB(w:World)(g:Nat)(e1 e2:Bool)(v:Int):Prop:=w.heap[g]? = some (.cells #[.bool e1,.bool e2,.int .u8 v] 181 (0,0))
theorem XB.cells{w:World}{g:Nat}{e1 e2:Bool}{v:Int}(h:XB w g e1 e2 v):w.cell? ⟨g,0,none⟩=some (.bool e1)∧w.cell? ⟨g,1,none⟩=some (.bool e2)∧w.cell? ⟨g,2,none⟩=some (.int .u8 v) :=
 ⟨by rw[Lib.cell_of_heap h];rfl,by rw[Lib.cell_of_heap h];rfl,by rw[Lib.cell_of_heap h];rfl⟩
theorem XB.other{w:World}{g g' k:Nat}{v:Value}{e1 e2:Bool}{n:Int}(h:XB w g e1 e2 n)(hg:g≠g'):XB (w.setCell ⟨g',k,none⟩ v) g e1 e2 n:=(heap_other hg).trans h
theorem XB.made(w:World)(e1 e2:Bool)(v:Int):XB (w.alloc (.cells #[.bool e1,.bool e2,.int .u8 v] 181)) w.heap.size e1 e2 v:=heap_alloc_new w _
def dpL(us:List Int)(l:List UInt8)(k:Nat):List Bool:=(List.range (l.length+1)).map fun i=>M (us.take k) (l.take i)
def nxL(us:List Int)(l:List UInt8)(k i:Nat):List Bool:=(List.range (l.length+1)).map fun j=>if j < i then M (us.take (k+1)) (l.take j)else false
theorem dpL_len(us:List Int)(l:List UInt8)(k:Nat):(dpL us l k).length=l.length+1:=by simp[dpL]
theorem nxL_len(us:List Int)(l:List UInt8)(k i:Nat):(nxL us l k i).length=l.length+1:=by simp[nxL]
theorem dpL_get(us:List Int)(l:List UInt8)(k i:Nat)(h:i < (dpL us l k).length):(dpL us l k)[i]=M (us.take k) (l.take i):=by simp[dpL]
theorem nxL_get(us:List Int)(l:List UInt8)(k i j:Nat)(h:j < (nxL us l k i).length)(hj:j < i):(nxL us l k i)[j]=M (us.take (k+1)) (l.take j):=by simp[nxL,hj]
theorem dpL_zero(us:List Int)(l:List UInt8):dpL us l 0=(List.replicate (l.length+1) false).set 0 true:=by
 apply List.ext_getElem
 ·simp[dpL]
 ·intro i h1 h2
  rw[dpL_get,List.getElem_set]
  apply bool_iff
  rw[List.take_zero,M_nil]
  by_cases e:0=i
  ·subst e;simp
  ·rw[if_neg e,List.getElem_replicate,List.take_eq_nil_iff]
   constructor
   ·rintro(h | h)
    ·omega
    ·subst h;simp at h1 h2;omega
   ·intro h;cases h
theorem nxL_zero(us:List Int)(l:List UInt8)(k:Nat):nxL us l k 0=List.replicate (l.length+1) false:=by
 apply List.ext_getElem
 ·simp[nxL]
 ·intro i h1 h2;simp[nxL]
theorem nxL_step(us:List Int)(l:List UInt8)(k i:Nat){b:Bool}(hb:b=M (us.take (k+1)) (l.take i)):(nxL us l k i).set i b=nxL us l k (i+1):=by
 apply List.ext_getElem
 ·simp[nxL]
 ·intro j h1 h2
  rw[List.getElem_set]
  by_cases e:i=j
  ·subst e
   rw[if_pos rfl,nxL_get us l k (i+1) i h2 (by omega),hb]
  ·rw[if_neg e]
   simp only[nxL,List.getElem_map,List.getElem_range]
   by_cases e2:j < i
   ·rw[if_pos e2,if_pos (by omega)]
   ·rw[if_neg e2,if_neg (by omega)]
theorem nxL_skip(us:List Int)(l:List UInt8)(k i:Nat)(hb:M (us.take (k+1)) (l.take i)=false):nxL us l k i=nxL us l k (i+1):=by
 apply List.ext_getElem
 ·simp[nxL]
 ·intro j h1 h2
  simp only[nxL,List.getElem_map,List.getElem_range]
  by_cases e:j=i
  ·subst e
   rw[if_neg (by omega),if_pos (by omega),hb]
  ·by_cases e2:j < i
   ·rw[if_pos e2,if_pos (by omega)]
   ·rw[if_neg e2,if_neg (by omega)]
theorem nxL_all(us:List Int)(l:List UInt8)(k:Nat):nxL us l k (l.length+1)=dpL us l (k+1):=by
 apply List.ext_getElem
 ·simp[nxL,dpL]
 ·intro j h1 h2
  rw[dpL_get,nxL_get us l k (l.length+1) j h1 (by rw[nxL_len]at h1;omega)]
theorem take_one{us:List Int}{k:Nat}(hk:k < us.length):us.take (k+1)=us.take k ++ [us[k]]:=List.take_succ_eq_append_getElem hk
theorem st_many0{us:List Int}{k:Nat}(hk:k < us.length)(hu:us[k] = -2)(l:List UInt8):M (us.take (k+1)) (l.take 0)=M (us.take k) (l.take 0):=by
 rw[take_one hk,hu];exact dp_many0 _ _
theorem st_many{us:List Int}{k:Nat}(hk:k < us.length)(hu:us[k] = -2){l:List UInt8}{i:Nat}(hi:i < l.length):M (us.take (k+1)) (l.take (i+1))=(M (us.take k) (l.take (i+1)) || M (us.take (k+1)) (l.take i)):=by
 rw[take_one hk,hu];exact dp_many _ _ _ hi
theorem st_byte0{us:List Int}{k:Nat}(hk:k < us.length)(hu:us[k] ≠ -2)(l:List UInt8):M (us.take (k+1)) (l.take 0)=false:=by
 rw[take_one hk];exact dp_byte0 hu _ _
theorem st_byte{us:List Int}{k:Nat}(hk:k < us.length)(hu:us[k] ≠ -2){l:List UInt8}{i:Nat}(hi:i < l.length):M (us.take (k+1)) (l.take (i+1))=(M (us.take k) (l.take i) && okU us[k] l[i]):=by
 rw[take_one hk];exact dp_byte hu _ _ _ hi
end Go.Proofs.YtcicpjgnpcnnmaaGreatDoor.LK
namespace Go.Proofs.YtcicpjgnpcnnmaaGreatDoor.BV
end Go.Proofs.YtcicpjgnpcnnmaaGreatDoor.BV
namespace Go.Proofs.YtcicpjgnpcnnmaaGreatDoor.LK
open BV
open Go.RowKit
theorem rlike_none(s p:ByteArray)(w:World)(hp:p.size≤100000000)(h:rd p.data.toList=none) :
  Calls Tryz.prog 119 #[.string s,.string p] w fun e w'=>e = .returned (.tuple #[.bool false,.int .i64 40])∧Below w.heap.size w w':=by
 have HR:=Hi (pieces_none p w hp h);clear h;go_enter Tryz.func119,Tryz.ntmps119;go_wp2_with fail;refine HR.out.mono ?_;rintro e w1 ⟨rfl,hb1⟩;go_wp2_with fail
 go_ret2
 exact⟨rfl,hb1⟩
def Outer(w1:World)(us:List Int)(l:List UInt8)(k:Nat)(gN:Nat)(wx:World):Prop:=BB wx gN (dpL us l k)∧w1.heap.size≤gN∧Below w1.heap.size w1 wx
def Inner(w1:World)(us:List Int)(l:List UInt8)(k i:Nat)(gN gX gB:Nat)(e1 e2:Bool)(v:Int)(wx:World):Prop:=BB wx gN (dpL us l k)∧BB wx gX (nxL us l k i)∧XB wx gB e1 e2 v∧Below w1.heap.size w1 wx
theorem Inner.set{w1 wx:World}{us:List Int}{l:List UInt8}{k i gN gX gB:Nat}{e1 e2:Bool}{v:Int}(h:Inner w1 us l k i gN gX gB e1 e2 v wx)(hX:w1.heap.size≤gX)(h1:gN≠gX)(h2:gB≠gX){b:Bool}(hb:b=M (us.take (k+1)) (l.take i)):Inner w1 us l k (i+1) gN gX gB e1 e2 v (wx.setCell ⟨gX,i,none⟩ (.bool b)) :=
 ⟨h.1.other h1,by rw[←nxL_step us l k i hb];exact h.2.1.set i b,h.2.2.1.other h2,h.2.2.2.setCell (p:=⟨gX,i,none⟩) hX _⟩
theorem Inner.skip{w1 wx:World}{us:List Int}{l:List UInt8}{k i gN gX gB:Nat}{e1 e2:Bool}{v:Int}(h:Inner w1 us l k i gN gX gB e1 e2 v wx)(hb:M (us.take (k+1)) (l.take i)=false):Inner w1 us l k (i+1) gN gX gB e1 e2 v wx :=
 ⟨h.1,by rw[←nxL_skip us l k i hb];exact h.2.1,h.2.2.1,h.2.2.2⟩
theorem Inner.drew{w1 wx:World}{us:List Int}{l:List UInt8}{k i gN gX gB:Nat}{e1 e2:Bool}{v:Int}(h:Inner w1 us l k i gN gX gB e1 e2 v wx):Inner w1 us l k i gN gX gB e1 e2 v wx.drew:=⟨h.1,h.2.1,h.2.2.1,h.2.2.2.drew⟩
theorem ok_box{u v:Int}{e2:Bool}{x:UInt8}(hu:Unit1 u)(h1:false=(u == -2))(h2:e2=(u == -1))(hv:v=max u 0):okU u x=(e2 || ((x.toNat:Int) == v)):=by
 subst h2 hv;unfold okU;rcases hu with rfl | rfl | ⟨h3,h4⟩
 ·simp at h1
 ·rfl
 ·rw[show max u 0=u by omega]
  congr 1
  exact Bool.beq_comm
structure WS(P:Program)(ops:Array Oper)(w:World)(Q:Act→Prop)(l:List Oper)(a:Act):Prop where
 out:wpStill P ops w Q l a
theorem WS.step{P:Program}{ops:Array Oper}{w:World}{Q:Act→Prop}{a:Act}{o:Oper}{rest:List Oper}(h:∀ K:Act→Prop,(∀ a,WS P ops w Q rest a→K a)→if Region.wanted o (yielded ops a.tmps)then o.still P a w K else K (a.put o.dst undef)):WS P ops w Q (o::rest) a :=
 ⟨wpStill_step fun K hK=>h K fun a h=>hK a h.out⟩
theorem WS.nil{P:Program}{ops:Array Oper}{w:World}{Q:Act→Prop}{a:Act}(h:Q a):WS P ops w Q [] a:=⟨wpStill_nil h⟩
theorem rlike_some(s p:ByteArray)(us:List Int)(w:World)(hs:s.size≤100000000)(hp:p.size≤100000000)(h:rd p.data.toList=some us) :
  Calls Tryz.prog 119 #[.string s,.string p] w fun e w'=>e = .returned (.tuple #[.bool (M us s.data.toList),.int .i64 0])∧Below w.heap.size w w':=by
 obtain⟨i0,hi,hz0,hz1,hz2⟩:=info_parts info4;have HR:=Hi (pieces_some p us w hp h);have hm:=units_len hp h;have HU:=Hi (rd_units _ _ _ (Nat.le_refl _) h).2;clear h;obtain⟨n,hn⟩:∃ n,n=us.length:=⟨_,rfl⟩;have HN:=Hi hn;rw[←hn]at hm;clear hn;have HL:Hid (s.data.toList.length=s.size):=size_list s;obtain⟨N1,hN1⟩:∃ N1,N1=s.size+1:=⟨_,rfl⟩;have HN1:=Hi hN1;have hN2:(s.size:Int)+1=(N1:Int):=by omega
 have hN3:N1≤100000001:=by omega
 have hN4:0 < N1:=by omega
 clear hN1;go_enter Tryz.func119,Tryz.ntmps119;go_wp2_with fail;refine HR.out.mono ?_;rintro e w1 ⟨A,c,rfl,hu,hb1⟩;have HA:=Hi hu;rw[←HN.out];clear hu;have hbs:=hb1.size
 go_wp2_with (at_make;refine wpList_make_full _ rfl _ _ 75 rfl w1.heap.size 4 i0 (.bool false) 1 Tryz.underlying75 hi hz0 hz1 _ _ _ _ N1 rfl rfl (by first | rfl | exact hN2) (by first | rfl | exact hN2) (by rw[hz2];omega) (by unfold maxLen;omega) (Nat.le_refl _) ?_)
 intro w2 hown2 hgrow2;have HB0:=Hi (bb_made hown2);have hb2:=(Below.refl w1.heap.size w1).grown hgrow2 (Nat.le_refl _) (by simp)
 clear hown2 hgrow2;have c0:=HB0.out.cell 0 (by simp;omega)
 rw[List.getElem_replicate]at c0;have f0:=HB0.out.free 0
 have HO0:Hid (Outer w1 us s.data.toList 0 w1.heap.size (w2.setCell ⟨w1.heap.size,0,none⟩ (.bool true))):=by
  refine⟨?_,Nat.le_refl _,hb2.setCell (p:=⟨w1.heap.size,0,none⟩) (Nat.le_refl _) _⟩;rw[dpL_zero,HL.out,←HN1.out];exact HB0.out.set 0 true
 have HB2:=Hi hb2;clear hb2;go_wp2_with fail;clear c0 f0
 go_loopg [8,28] n (fun g s8 s28 wx=>∃ (k gN:Nat),k+g=n∧s28 = .int .i64 k∧s8 = .slice (some ⟨gN,0,none⟩) N1 N1∧Hid (Outer w1 us s.data.toList k gN wx))
 case atStart=>exact⟨0,_,by omega,rfl,rfl,HO0.out⟩
 case round =>
  obtain⟨k,gN,hkg,rfl,rfl,HO⟩:=hrel;cases gk with
  | zero =>
   have hkz:¬((k:Int) < (n:Int)):=by omega
   have cN:=HO.out.1.cell s.size (by rw[dpL_len,HL.out];omega)
   rw[dpL_get,List.take_of_length_le (by rw[←HN.out];omega),List.take_of_length_le (by rw[HL.out];exact Nat.le_refl _)]at cN
   have hNs:(s.size:Int) < (N1:Int):=by omega
   go_wp2_with fail
   go_ret2
   exact⟨rfl,bthen hb1 HO.out.2.2⟩
  | succ g =>
   have hkz:(k:Int) < (n:Int):=by omega
   have hkl:k < us.length:=by rw[←HN.out];omega
   obtain⟨b,off,hA,hbl,hcell⟩:=HA.out (by omega)
   subst hA;obtain⟨c1,c2,c3⟩:=hcell k hkl;have d1:=(HO.out.2.2.cell (p:=⟨b,_,none⟩) hbl).trans c1;have d2:=(HO.out.2.2.cell (p:=⟨b,_,none⟩) hbl).trans c2;have d3:=(HO.out.2.2.cell (p:=⟨b,_,none⟩) hbl).trans c3;clear hcell c1 c2 c3;obtain⟨e1,he1⟩:∃ e1,e1=(us[k] == -2):=⟨_,rfl⟩;obtain⟨e2,he2⟩:∃ e2,e2=(us[k] == -1):=⟨_,rfl⟩;obtain⟨v,hv⟩:∃ v,v=max us[k] 0:=⟨_,rfl⟩;rw[←he1]at d1;rw[←he2]at d2;rw[←hv]at d3;have HE1:=Hi he1;have HE2:=Hi he2;have HV:=Hi hv;clear he1 he2 hv;have hBw:=HO.out.2.2.size
   go_wp2_with (at_make;refine wpList_make_full _ rfl _ _ 75 rfl w1.heap.size 4 i0 (.bool false) 1 Tryz.underlying75 hi hz0 hz1 _ _ _ _ N1 rfl rfl (by first | rfl | exact hN2) (by first | rfl | exact hN2) (by rw[hz2];omega) (by unfold maxLen;omega) (by simp;omega) ?_)
   intro w3 hown3 hgrow3
   have HI0:Hid (Inner w1 us s.data.toList k 0 gN (wr.heap.size+1) wr.heap.size e1 e2 v w3):=by
    refine⟨?_,?_,?_,?_⟩
    ·have h1:BB (wr.alloc (.cells #[.bool e1,.bool e2,.int .u8 v] 181)) gN _:=HO.out.1.below ((Below.refl wr.heap.size wr).alloc (Nat.le_refl _) _) HO.out.1.lt
     exact(hgrow3.block gN h1.lt (by simp)).trans h1
    ·rw[nxL_zero,HL.out,←HN1.out]
     exact bb_made hown3
    ·have h1:=XB.made wr e1 e2 v
     exact(hgrow3.block wr.heap.size (by simp) (by simp)).trans h1
    ·exact(HO.out.2.2.alloc hBw _).grown hgrow3 (by simp;omega) (by simp)
   obtain⟨gB,hgB⟩:∃ gB,gB=wr.heap.size:=⟨_,rfl⟩;rw[←hgB]at HI0;have hNB:gN < gB:=by rw[hgB];exact HO.out.1.lt
   have hX:w1.heap.size≤gB+1:=by omega
   clear hown3 hgrow3 d1 d2 d3 hBw HO;rw[←hgB];clear hgB;go_wp2_with fail
   go_loopg [38] N1 (fun g2 s38 wy=>∃ i:Nat,i+g2=N1∧s38 = .int .i64 i∧Hid (Inner w1 us s.data.toList k i gN (gB+1) gB e1 e2 v wy))
   case atStart=>exact⟨0,by omega,rfl,HI0.out⟩
   case round =>
    obtain⟨i,hig,rfl,HI⟩:=hrel;cases gk with
    | zero =>
     have hiz:¬((i:Int) < (N1:Int)):=by omega
     have HE:Hid (Outer w1 us s.data.toList (k+1) (gB+1) wr):=by
      refine⟨?_,hX,HI.out.2.2.2⟩;rw[←nxL_all,HL.out,←HN1.out,show N1=i by omega]
      exact HI.out.2.1
     go_wp2_with fail
     go_roundg g
     case measure=>omega
     case rel=>exact⟨k+1,_,by omega,by go_num,rfl,HE.out⟩
    | succ g2 =>
     have hiz:(i:Int) < (N1:Int):=by omega
     obtain⟨x1,x2,x3⟩:=HI.out.2.2.1.cells;have cX:=HI.out.2.1.free i;have cI:=HI.out.2.1.cell i (by rw[nxL_len,HL.out];omega)
     generalize (nxL us s.data.toList k i)[i]'(by rw[nxL_len,HL.out];omega)=old at cI
     by_cases hi0:i=0
     ·subst hi0
      cases e1
      ·have HS:=Hi (HI.out.skip (st_byte0 hkl (by have:=HE1.out;simpa using this) _))
       go_wp2_with fail
       go_roundg g2
       case measure=>omega
       case rel=>exact⟨1,by omega,by go_num,HS.out⟩
      ·have cN:=HI.out.1.cell 0 (by rw[dpL_len];omega)
       rw[dpL_get]at cN;have HS:=Hi (HI.out.set hX (by omega) (by omega) (st_many0 hkl (by have:=HE1.out;simpa using this) _).symm)
       generalize M (us.take k) (s.data.toList.take 0)=b1 at *;cases b1
       ·go_wp2_with fail
        go_roundg g2
        case measure=>omega
        case rel=>exact⟨1,by omega,by go_num,HS.out⟩
       ·go_wp2_with fail
        go_roundg g2
        case measure=>omega
        case rel=>exact⟨1,by omega,by go_num,HS.out⟩
     ·obtain⟨j,rfl⟩:∃ j,i=j+1:=⟨i - 1,by omega⟩
      have hjl:j < s.data.toList.length:=by rw[HL.out];omega
      have hjs:(j:Int) < (s.size:Int):=by omega
      clear hi0;cases e1
      ·have cN:=HI.out.1.cell j (by rw[dpL_len];omega)
       rw[dpL_get]at cN;have HS:=Hi (HI.out.drew.set hX (by omega) (by omega) (st_byte hkl (by have:=HE1.out;simpa using this) hjl).symm)
       rw[ok_box (HU.out _ (List.getElem_mem hkl)) HE1.out HE2.out HV.out,show s.data.toList[j]=s[j]'(by omega) from rfl]at HS
       generalize M (us.take k) (s.data.toList.take j)=b1 at *;have ew:IntKind.i64.wrap (j:Int)=(j:Int):=IntWalk.i64_in _ (by omega)
       have hjN:(j:Int) < (N1:Int):=by omega
       have hiz2:(j:Int)+1 < (N1:Int):=by omega
       have hj1:(0:Int)≤(j:Int)+1:=by omega
       have hj2:((j:Int)+1).toNat=j+1:=by omega
       cases b1
       ·rw[Bool.false_and]at HS
        go_wp2_with fail;refine wp_region_still_tail 21 (by kernel_rfl) (by kernel_rfl) (WS.out ?_)
        simp only[List.take_succ_cons,List.take_zero,List.drop_succ_cons,List.drop_zero]
        repeat(refine WS.step (fun K hK => ?_);go_simp;refine hK _ ?_;clear hK K)
        refine WS.nil ?_
        change wpList _ _ _ _ _ wr.drew
        go_wp2_with fail
        go_roundg g2
        case measure=>omega
        case rel=>exact⟨j+1+1,by omega,by go_num,HS.out⟩
       ·rw[Bool.true_and]at HS
        cases e2
        ·rw[Bool.false_or]at HS
         go_wp2_with fail;refine wp_region_still_tail 21 (by kernel_rfl) (by kernel_rfl) (WS.out ?_)
         simp only[List.take_succ_cons,List.take_zero,List.drop_succ_cons,List.drop_zero]
         repeat(refine WS.step (fun K hK => ?_);go_simp;refine hK _ ?_;clear hK K)
         refine WS.nil ?_
         change wpList _ _ _ _ _ wr.drew
         go_wp2_with fail
         go_roundg g2
         case measure=>omega
         case rel=>exact⟨j+1+1,by omega,by go_num,HS.out⟩
        ·rw[Bool.true_or]at HS
         go_wp2_with fail;refine wp_region_still_tail 21 (by kernel_rfl) (by kernel_rfl) (WS.out ?_)
         simp only[List.take_succ_cons,List.take_zero,List.drop_succ_cons,List.drop_zero]
         repeat(refine WS.step (fun K hK => ?_);go_simp;refine hK _ ?_;clear hK K)
         refine WS.nil ?_
         change wpList _ _ _ _ _ wr.drew
         go_wp2_with fail
         go_roundg g2
         case measure=>omega
         case rel=>exact⟨j+1+1,by omega,by go_num,HS.out⟩
      ·have cN:=HI.out.1.cell (j+1) (by rw[dpL_len];omega)
       rw[dpL_get]at cN;have cJ:=HI.out.2.1.cell j (by rw[nxL_len];omega)
       rw[nxL_get _ _ _ _ _ _ (by omega)]at cJ
       have HS:=Hi (HI.out.set hX (by omega) (by omega) (st_many hkl (by have:=HE1.out;simpa using this) hjl).symm)
       generalize M (us.take k) (s.data.toList.take (j+1))=b1 at *;generalize M (us.take (k+1)) (s.data.toList.take j)=b2 at *;cases b1
       ·rw[Bool.false_or]at HS
        go_wp2_with fail
        go_roundg g2
        case measure=>omega
        case rel=>exact⟨j+1+1,by omega,by go_num,HS.out⟩
       ·rw[Bool.true_or]at HS
        go_wp2_with fail
        go_roundg g2
        case measure=>omega
        case rel=>exact⟨j+1+1,by omega,by go_num,HS.out⟩
end Go.Proofs.YtcicpjgnpcnnmaaGreatDoor.LK
namespace Go.Proofs.YtcicpjgnpcnnmaaGreatDoor.BV
end Go.Proofs.YtcicpjgnpcnnmaaGreatDoor.BV
namespace Go.Proofs.YtcicpjgnpcnnmaaGreatDoor.LG
open BV
open Go.RowKit
theorem own_ge{w:World}{base:Nat}{e:TypeId}{size:Nat}{v:Value}{n:Nat}{xs:List Value}(h:w.ownsRow base e size v n xs){k:Nat}(hk:v.ownBlock=some k):base≤k:=by
 rcases h.2 with ⟨rfl,-⟩ | ⟨g,cap,cur,rfl,hb,-⟩
 ·simp[Value.ownBlock]at hk
 ·simp[Value.ownBlock]at hk;omega
theorem own_later{w w':World}{base:Nat}{e:TypeId}{size:Nat}{v:Value}{n:Nat}{xs:List Value}(h:w.ownsRow base e size v n xs)(hb:Below w.heap.size w w'):w'.ownsRow base e size v n xs:=by
 refine⟨h.1,?_⟩;rcases h.2 with ⟨rfl,h0⟩ | ⟨g,cap,cur,rfl,h1,h2,h3⟩
 ·exact Or.inl ⟨rfl,h0⟩
 ·exact Or.inr ⟨g,cap,cur,rfl,h1,(hb.block g (Array.getElem?_eq_some_iff.1 h2).1).trans h2,h3⟩
theorem own_row{w:World}{base:Nat}{v:Value}{n:Nat}{ys:List V}(h:w.ownsRow base 26 3 v n (flat ys)):∃ A c,v = .slice A n c∧ys.length=n∧RowAt w w.heap.size A ys:=by
 have hl:ys.length=n:=by have:=h.1;rw[flat_len]at this;omega
 rcases h.2 with ⟨rfl,rfl⟩ | ⟨g,cap,cur,rfl,hb,hg,-⟩
 ·exact⟨none,0,rfl,hl,fun h0=>by omega⟩
 ·exact⟨some ⟨g,0,none⟩,cap,rfl,hl,RowAt.of_flat (h.cells (g:=g) rfl) (Array.getElem?_eq_some_iff.1 hg).1⟩
theorem news_at{w:World}{H:Nat}(hH:w.heap.size=H)(v:V):∀ j u,(c3 v)[j]? = some u→(w.alloc (.cells #[.int .i64 v.k,.int .i64 v.i,.string v.s] 26)).cell? ((⟨H,0,none⟩:Addr).add j)=some u:=by
 subst hH;exact World.news_of_block (heap_alloc_new w _)
theorem c3_each(v:V):∀ u∈c3 v,u.oneCell'=true:=by
 intro u hu
 simp[c3]at hu
 rcases hu with rfl | rfl | rfl <;> rfl
theorem flat_app(xs:List V)(v:V):flat xs++c3 v=flat (xs ++ [v]):=by simp[flat]
theorem eqs_snoc{v:V}{xs:List V}{k:Nat}(h:k < xs.length):(eqs v xs).take (k+1)=(eqs v xs).take k ++ [relR eqB v xs[k]]:=by
 rw[take_snoc (xs:=eqs v xs) (by rw[eqs_len];omega)]
 simp[eqs]
theorem rin_bad(v:V)(xs:List V)(A:Option Addr)(c:Nat)(w:World)(hr:RowAt w w.heap.size A xs)(hm:xs.length≤2000)(hok:okIn v xs=false) :
  Calls Tryz.prog 68 #[.agg #[.int .i64 v.k,.int .i64 v.i,.string v.s],.slice A xs.length c] w fun e w'=>e = .returned (.tuple #[.agg #[.int .i64 0,.int .i64 0,.string ⟨#[]⟩],.int .i64 1])∧Below w.heap.size w w':=by
 have hcall:=may_any [v] _ 1 _ (w2of_row w v) (by simp)
 obtain⟨h0,h1,hb,hsz⟩:=w2of_box w v;have hc2:=fun w' (hb':Below w.heap.size w w')=>may_any xs A c w' (hr.later hb') (by omega)
 have HOK:Hid ((allOk [v] && allOk xs)=false):=hok;generalize allOk [v]=ga at *;generalize allOk xs=gb at *;generalize xs.length=n at *;have H1:=Hi h1;have HZ:=Hi hsz;have HB:=Hi hb;have HC':=Hi hcall;have HC2:=Hi hc2;clear h0 h1 hb hsz hcall hr hc2;have HC:Hid (Calls Tryz.prog 121 #[.slice (some ⟨w.heap.size+2,0,none⟩) 1 1] (((w.alloc (.cells #[.int .i64 v.k,.int .i64 v.i,.string v.s] 26)).alloc (.cells #[.int .i64 0,.int .i64 0,.string ⟨#[]⟩] 26)).alloc (.cells #[.int .i64 v.k,.int .i64 v.i,.string v.s] 26)) fun e w'=>e = .returned (.bool ga)∧Below (w2of w v).heap.size (w2of w v) w'):=HC'.out
 clear HC';cases ga
 ·go_enter Tryz.func68,Tryz.ntmps68
  go_wp2_with fail;refine HC.out.mono ?_;rintro e w1 ⟨rfl,hb1⟩;obtain⟨g0,g1,g2⟩:=(H1.out.below hb1 (by rw[HZ.out];omega)).cells
  obtain⟨f0,f1,f2⟩:=(H1.out.below hb1 (by rw[HZ.out];omega)).free
  simp only[zV]at g0 g1 g2;go_wp2_with fail;exact bodyPost_ret (v:= .tuple #[.agg #[.int .i64 0,.int .i64 0,.string ⟨#[]⟩],.int .i64 1]) (by simp[results,Tryz.results68,go_sem,g0,g1,g2]) rfl ⟨rfl,Below.set3 (HB.out.trans (hb1.mono (by rw[HZ.out];omega))) (by omega) _ _ _⟩
 ·obtain rfl:gb=false:=by have:=HOK.out;simpa using this
  go_enter Tryz.func68,Tryz.ntmps68;go_wp2_with fail;refine HC.out.mono ?_;rintro e w1 ⟨rfl,hb1⟩;have hbb:=HB.out.trans (hb1.mono (by rw[HZ.out];omega))
  go_wp2_with fail;refine(HC2.out w1 hbb).mono ?_;rintro e w2 ⟨rfl,hb2⟩;have hb3:=bthen hb1 hb2;obtain⟨g0,g1,g2⟩:=(H1.out.below hb3 (by rw[HZ.out];omega)).cells
  obtain⟨f0,f1,f2⟩:=(H1.out.below hb3 (by rw[HZ.out];omega)).free
  simp only[zV]at g0 g1 g2;go_wp2_with fail;exact bodyPost_ret (v:= .tuple #[.agg #[.int .i64 0,.int .i64 0,.string ⟨#[]⟩],.int .i64 1]) (by simp[results,Tryz.results68,go_sem,g0,g1,g2]) rfl ⟨rfl,Below.set3 (HB.out.trans (hb3.mono (by rw[HZ.out];omega))) (by omega) _ _ _⟩
end Go.Proofs.YtcicpjgnpcnnmaaGreatDoor.LG
namespace Go.Proofs.YtcicpjgnpcnnmaaGreatDoor.BV
end Go.Proofs.YtcicpjgnpcnnmaaGreatDoor.BV
namespace Go.Proofs.YtcicpjgnpcnnmaaGreatDoor.LG
open BV
open Go.RowKit
theorem rin_good(v:V)(xs:List V)(A:Option Addr)(c:Nat)(w:World)(hr:RowAt w w.heap.size A xs)(hm:xs.length≤2000)(hok:okIn v xs=true) :
  Calls Tryz.prog 68 #[.agg #[.int .i64 v.k,.int .i64 v.i,.string v.s],.slice A xs.length c] w fun e w'=>e = .returned (.tuple #[.agg #[.int .i64 (inR v xs).k,.int .i64 (inR v xs).i,.string (inR v xs).s],.int .i64 (inE v xs)])∧Below w.heap.size w w':=by
 have hcall:=may_any [v] _ 1 _ (w2of_row w v) (by simp)
 obtain⟨h0,h1,hb,hsz⟩:=w2of_box w v;have hc2:=fun w' (hb':Below w.heap.size w w')=>may_any xs A c w' (hr.later hb') (by omega)
 rw[(okIn_parts hok).1]at hcall;simp only[(okIn_parts hok).2]at hc2;have HE1:=Hi (fun h0=>in_err hok h0)
 have HE2:=Hi (fun h0=>in_good hok h0)
 generalize inE v xs=q at *;generalize inR v xs=r at *;obtain⟨n,hn⟩:∃ n,n=xs.length:=⟨_,rfl⟩;rw[←hn]at hm hc2 ⊢;have HN:=Hi hn;have H0:=Hi h0;have H1:=Hi h1;have HZ:=Hi hsz;have HB:=Hi hb;have HC':=Hi hcall;have HC2:=Hi hc2;have HR:=Hi hr;clear h0 h1 hb hsz hcall hr hc2 hok hn;have HC:Hid (Calls Tryz.prog 121 #[.slice (some ⟨w.heap.size+2,0,none⟩) 1 1] (((w.alloc (.cells #[.int .i64 v.k,.int .i64 v.i,.string v.s] 26)).alloc (.cells #[.int .i64 0,.int .i64 0,.string ⟨#[]⟩] 26)).alloc (.cells #[.int .i64 v.k,.int .i64 v.i,.string v.s] 26)) fun e w'=>e = .returned (.bool true)∧Below (w2of w v).heap.size (w2of w v) w'):=HC'.out
 clear HC';go_enter Tryz.func68,Tryz.ntmps68;go_wp2_with fail;refine HC.out.mono ?_;rintro e w1 ⟨rfl,hb1⟩;have hbb:=HB.out.trans (hb1.mono (by rw[HZ.out];omega))
 go_wp2_with fail;refine(HC2.out w1 hbb).mono ?_;rintro e w2 ⟨rfl,hb2⟩;have hb3:=HB.out.trans ((bthen hb1 hb2).mono (by rw[HZ.out];omega))
 have hw2:w.heap.size+3≤w2.heap.size:=by have h1:=hb1.size;have h2:=hb2.size;have h3:=HZ.out;omega
 have HV0:=Hi (H0.out.below (bthen hb1 hb2) (by rw[HZ.out];omega))
 have HV1:=Hi (H1.out.below (bthen hb1 hb2) (by rw[HZ.out];omega))
 clear hb1 hb2 hbb HC HC2 H0 H1 HZ HB;go_wp2_with fail
 go_loopw [23,6] (fun i s wr=>∃ k:Nat,k≤n∧i = .int .i64 k∧Below w.heap.size w wr∧w2.heap.size≤wr.heap.size∧Hid (VBox wr w.heap.size v)∧Hid (VBox wr (w.heap.size+1) zV)∧Hid (wr.ownsRow w2.heap.size 26 3 s k (flat ((eqs v xs).take k)))∧Hid (firstE v (xs.take k)=0)) (fun i _ _=>n - (intOf i).toNat)
 case atStart=>exact⟨0,Nat.zero_le _,rfl,hb3,Nat.le_refl _,HV0.out,HV1.out,World.ownsRow_nil _ _ _ _,rfl⟩
 case round =>
  obtain⟨k,hk,rfl,hb,hgl,hv0,hv1,hown,hfar⟩:=hrel
  by_cases hlt:k < n
  ·have hkx:k < xs.length:=by rw[←HN.out];exact hlt
   obtain⟨b,off,hA,hbl,hc⟩:=HR.out (by omega)
   subst hA;obtain⟨c1,c2,c3'⟩:=hc k hkx;have d1:=(hb.cell (p:=⟨b,_,none⟩) hbl).trans c1;have d2:=(hb.cell (p:=⟨b,_,none⟩) hbl).trans c2;have d3:=(hb.cell (p:=⟨b,_,none⟩) hbl).trans c3';obtain⟨e0,e1,e2⟩:=hv0.out.cells;have hvl:=hv0.out.lt;have e0:=fun o=>(World.cell?_alloc_lt wr o ⟨w.heap.size,0,none⟩ hvl).trans e0
   have e1:=fun o=>(World.cell?_alloc_lt wr o ⟨w.heap.size,1,none⟩ hvl).trans e1
   have e2:=fun o=>(World.cell?_alloc_lt wr o ⟨w.heap.size,2,none⟩ hvl).trans e2
   clear c1 c2 c3' hc;have HX:=Hi (firstE_step hkx hfar.out);have HS:=Hi (eqs_snoc (v:=v) hkx);have HREL':=Hi (fun w=>rrel_any eqB v xs[k] w)
   generalize relE eqB v xs[k]=re at *;generalize relR eqB v xs[k]=rr at *;generalize xs[k]=x at *;have HREL:Hid (∀ w,Calls Tryz.prog 66 #[.string ⟨#[61]⟩,.agg #[.int .i64 v.k,.int .i64 v.i,.string v.s],.agg #[.int .i64 x.k,.int .i64 x.i,.string x.s]] w fun e w'=>e = .returned (.tuple #[.agg #[.int .i64 rr.k,.int .i64 rr.i,.string rr.s],.int .i64 re])∧Below w.heap.size w w'):=HREL'.out
   have hbA:=hb.alloc hb.size (.cells #[.int .i64 x.k,.int .i64 x.i,.string x.s] 26);have hownA:=Hi (hown.out.alloc (.cells #[.int .i64 x.k,.int .i64 x.i,.string x.s] 26));have hv0A:=Hi (hv0.out.alloc (.cells #[.int .i64 x.k,.int .i64 x.i,.string x.s] 26));have hv1A:=Hi (hv1.out.alloc (.cells #[.int .i64 x.k,.int .i64 x.i,.string x.s] 26));clear HREL'
   by_cases hre:re=0
   ·subst hre
    go_wp2_with fail;refine(HREL.out _).mono ?_;rintro e w4 ⟨rfl,hb4⟩;have hb5:=bthen hbA hb4;have hown5:=own_later hownA.out hb4;have hv05:=Hi (hv0A.out.later hb4);have hv15:=Hi (hv1A.out.later hb4);have hsz4:w2.heap.size < w4.heap.size:=by have:=hb4.size;simp at this;omega
    obtain⟨i0,hi,hz0,hz1,hz2⟩:=info_parts info24;have hown6:=(hown5.alloc (.cells #[.int .i64 rr.k,.int .i64 rr.i,.string rr.s] 26)).alloc (.cells #[.int .i64 rr.k,.int .i64 rr.i,.string rr.s] 26);have HOWN6:=Hi hown6;clear d1 d2 d3 e0 e1 e2 hown5 hown6
    go_wp2_with (at_builtin;(refine wpList_append_lies _ rfl (.tmp 37) (.tmp 39) 38 rfl w2.heap.size 26 i0 _ 3 32 Tryz.underlying38 hi hz0 hz1 hz2 rfl (by decide) _ k (flat ((eqs v xs).take k)) rfl HOWN6.out ⟨w4.heap.size+1,0,none⟩ 1 1 (c3 rr) rfl rfl (news_at (by simp) rr) (c3_each rr) (by decide) (by unfold maxLen;omega) (by omega) (by simp;omega) _ rfl ?_);intro g2 cap2 w6 hown7 hgrow7 hat7 hlt7;have HO:=Hi hown7;have HG:=Hi hgrow7;clear hown7 hgrow7 hat7)
    go_roundw
    case rel =>
     have hbG:=(Below.refl w2.heap.size ((w4.alloc (.cells #[.int .i64 rr.k,.int .i64 rr.i,.string rr.s] 26)).alloc (.cells #[.int .i64 rr.k,.int .i64 rr.i,.string rr.s] 26))).grown HG.out (by simp;omega) (fun k hk=>own_ge HOWN6.out hk)
     have hb6:=(hb5.alloc hb5.size (.cells #[.int .i64 rr.k,.int .i64 rr.i,.string rr.s] 26)).alloc (by have:=hb5.size;simp;omega) (.cells #[.int .i64 rr.k,.int .i64 rr.i,.string rr.s] 26)
     have ho:=HO.out;rw[flat_app,←HS.out]at ho;exact⟨k+1,by omega,by go_num,hb6.trans (hbG.mono (by omega)),by have:=hbG.size;simp at this;omega,((hv05.out.alloc _).alloc _).below hbG (by omega),((hv15.out.alloc _).alloc _).below hbG (by omega),ho,(HX.out.1 trivial)⟩
    case measure=>simp[intOf];omega
   ·have hre':(re != 0)=true:=by simpa using hre
    have HRE:=Hi hre;clear hre;go_wp2_with fail;refine(HREL.out _).mono ?_;rintro e w4 ⟨rfl,hb4⟩;have hb5:=bthen hbA hb4;have hv15:=Hi (hv1A.out.later hb4);have g0:=fun o=>(hv15.out.alloc o).cells.1
    have g1:=fun o=>(hv15.out.alloc o).cells.2.1
    have g2:=fun o=>(hv15.out.alloc o).cells.2.2
    have f0:=fun o=>(hv15.out.alloc o).free.1
    have f1:=fun o=>(hv15.out.alloc o).free.2.1
    have f2:=fun o=>(hv15.out.alloc o).free.2.2
    clear d1 d2 d3 e0 e1 e2;simp only[zV]at g0 g1 g2;go_wp2_with fail;have hq:=HE1.out (by rw[HX.out.2 HRE.out];exact HRE.out)
    rw[HX.out.2 HRE.out]at hq;exact bodyPost_ret (v:= .tuple #[.agg #[.int .i64 0,.int .i64 0,.string ⟨#[]⟩],.int .i64 re]) (by simp[results,Tryz.results68,go_sem,g0,g1,g2]) rfl ⟨ret_vx (u:=zV) hq.2 hq.1,Below.set3 (hb5.alloc hb5.size _) (by omega) _ _ _⟩
  ·obtain rfl:k=n:=by omega
   have hq:=HE2.out (firstE_end HN.out hfar.out);have HQ:=Hi hq;have hrw:=hown.out;rw[List.take_of_length_le (by rw[eqs_len];have:=HN.out;omega)]at hrw
   obtain⟨A2,c2,rfl,hl2,hrow2⟩:=own_row hrw;have hor:=ror_any (eqs v xs) A2 c2 wr hrow2 (by rw[eqs_len,←HN.out];omega)
   rw[eqs_len,←HN.out]at hor;generalize decV true (eqs v xs)=rr at *;generalize ctL (eqs v xs)=re at *;have HOR:=Hi hor;clear hq hrw hor hl2 hrow2;go_wp2_with fail;refine HOR.out.mono ?_;rintro e w4 ⟨rfl,hb4⟩;have hb5:=bthen hb hb4;have hv15:=Hi (hv1.out.later hb4);obtain⟨g0,g1,g2⟩:=hv15.out.cells;obtain⟨f0,f1,f2⟩:=hv15.out.free;simp only[zV]at g0 g1 g2;go_wp2_with fail;exact bodyPost_ret (v:= .tuple #[.agg #[.int .i64 rr.k,.int .i64 rr.i,.string rr.s],.int .i64 re]) (by simp[results,Tryz.results68,go_sem,g0,g1,g2]) rfl ⟨ret_vx HQ.out.2 HQ.out.1,Below.set3 hb5 (by omega) _ _ _⟩
theorem rin_any(v:V)(xs:List V)(A:Option Addr)(c:Nat)(w:World)(hr:RowAt w w.heap.size A xs)(hm:xs.length≤2000) :
  Calls Tryz.prog 68 #[.agg #[.int .i64 v.k,.int .i64 v.i,.string v.s],.slice A xs.length c] w fun e w'=>e = .returned (.tuple #[.agg #[.int .i64 (inR v xs).k,.int .i64 (inR v xs).i,.string (inR v xs).s],.int .i64 (inE v xs)])∧Below w.heap.size w w':=by
 cases h:okIn v xs
 ·rw[(in_bad h).1,(in_bad h).2]
  exact rin_bad v xs A c w hr hm h
 ·exact rin_good v xs A c w hr hm h
end Go.Proofs.YtcicpjgnpcnnmaaGreatDoor.LG
