import Derived.Shelf.Abstract
import Derived.Test.YtcicpjgnpcnnmaaGreatDoorQ02
set_option maxRecDepth 100000
set_option maxHeartbeats 4000000
namespace Go.Proofs.YtcicpjgnpcnnmaaGreatDoor.BV
end Go.Proofs.YtcicpjgnpcnnmaaGreatDoor.BV
namespace Go.Proofs.YtcicpjgnpcnnmaaGreatDoor.SC
open BV
open Go.RowKit
theorem three_boxes(w:World)(a b:V):HV w [(w.heap.size+2,zV),(w.heap.size+1,b),(w.heap.size,a)] (((w.alloc (.cells #[.int .i64 a.k,.int .i64 a.i,.string a.s] 26)).alloc (.cells #[.int .i64 b.k,.int .i64 b.i,.string b.s] 26)).alloc (.cells #[.int .i64 0,.int .i64 0,.string ⟨#[]⟩] 26)) :=
 (((HV.nil w).push a).pushAt (by simp) b).pushAt (by simp) zV
theorem ret_vx{u v:V}{x y:Int}(h:u=v)(h':x=y):Ending.returned (.tuple #[.agg #[.int .i64 u.k,.int .i64 u.i,.string u.s],.int .i64 x]) = .returned (.tuple #[.agg #[.int .i64 v.k,.int .i64 v.i,.string v.s],.int .i64 y]):=by rw[h,h']
theorem ar_none{op:ByteArray}{a b:V}(h:opk op=0):arE op a b=1∧arV op a b=zV:=by
 have h1:arE op a b=1:=by unfold arE;rw[if_pos (Or.inl h)]
 exact⟨h1,by unfold arV;rw[h1];rfl⟩
theorem ar_bad{op:ByteArray}{a b:V}(h:allOk [a,b]=false):arE op a b=1∧arV op a b=zV:=by
 have h1:arE op a b=1:=by unfold arE;rw[if_pos (Or.inr h)]
 exact⟨h1,by unfold arV;rw[h1];rfl⟩
theorem ar_kind{op:ByteArray}{a b:V}(h0:¬opk op=0)(h:allOk [a,b]=true)(hs:okK [4,4,0] [a,b]=false):arE op a b=20∧arV op a b=zV:=by
 have h2:stE [4,4,0] [a,b]=20:=by unfold stE;rw[hs];rfl
 have h1:arE op a b=20:=by unfold arE;rw[if_neg (by rw[h];simp[h0]),h2];rfl
 exact⟨h1,by unfold arV;rw[h1];rfl⟩
theorem ar_null{op:ByteArray}{a b:V}(h0:¬opk op=0)(h:allOk [a,b]=true)(hs:okK [4,4,0] [a,b]=true)(hn:nulB [a,b]=true):arE op a b=0∧arV op a b=zV:=by
 have h2:stE [4,4,0] [a,b]=0:=by unfold stE;rw[hs];rfl
 have h1:arE op a b=0:=by unfold arE;rw[if_neg (by rw[h];simp[h0]),h2,hn];rfl
 exact⟨h1,by unfold arV;rw[hn];simp⟩
theorem ar_num{op:ByteArray}{a b:V}(h0:¬opk op=0)(h:allOk [a,b]=true)(hs:okK [4,4,0] [a,b]=true)(hn:nulB [a,b]=false):arE op a b=numE (opk op) a.i b.i∧arV op a b=if numE (opk op) a.i b.i=0 then nV (numR (opk op) a.i b.i)else zV:=by
 have h2:stE [4,4,0] [a,b]=0:=by unfold stE;rw[hs];rfl
 have h1:arE op a b=numE (opk op) a.i b.i:=by unfold arE;rw[if_neg (by rw[h];simp[h0]),h2,hn];rfl
 refine⟨h1,?_⟩;unfold arV;rw[h1,hn];simp
theorem arith0(op:ByteArray)(a b:V)(w:World)(h1:(op.toList == [43])=false)(h2:(op.toList == [45])=false)(h3:(op.toList == [42])=false)(h4:(op.toList == [47])=false)(h5:(op.toList == [37])=false)(h0:opk op=0) :
  Calls Tryz.prog 91 #[.string op,.agg #[.int .i64 a.k,.int .i64 a.i,.string a.s],.agg #[.int .i64 b.k,.int .i64 b.i,.string b.s]] w fun e w'=>e = .returned (.tuple #[.agg #[.int .i64 (arV op a b).k,.int .i64 (arV op a b).i,.string (arV op a b).s],.int .i64 (arE op a b)])∧Below w.heap.size w w':=by
 rw[(ar_none h0).1,(ar_none h0).2];have HO:=Hi (fun w=>op0 op w h1 h2 h3 h4 h5)
 have HB:=Hi (three_boxes w a b);clear h0 h1 h2 h3 h4 h5;have hnn:=@run_eql_nil_nil;go_enter Tryz.func91,Tryz.ntmps91
 go_wp2_with (go_at_call 140;refine(HO.out _).mono ?_;rintro e w' ⟨rfl,rfl⟩)
 exact bodyPost_ret (v:= .tuple #[.agg #[.int .i64 0,.int .i64 0,.string ⟨#[]⟩],.int .i64 1]) (by simp[results,Tryz.results91,go_sem]) rfl ⟨rfl,by have:=HB.out.below;simpa [zV]using this⟩
theorem arith1(o:ByteArray)(m:Nat)(f:FuncId)(hm:(o=⟨#[43]⟩∧m=1∧f=170)∨(o=⟨#[45]⟩∧m=2∧f=171)∨(o=⟨#[42]⟩∧m=3∧f=172))(a b:V)(w:World)(ha:In64 a.i)(hb:In64 b.i) :
  Calls Tryz.prog 91 #[.string o,.agg #[.int .i64 a.k,.int .i64 a.i,.string a.s],.agg #[.int .i64 b.k,.int .i64 b.i,.string b.s]] w fun e w'=>e = .returned (.tuple #[.agg #[.int .i64 (arV o a b).k,.int .i64 (arV o a b).i,.string (arV o a b).s],.int .i64 (arE o a b)])∧Below w.heap.size w w':=by
 have hp:opk o=m:=by
  rcases hm with ⟨rfl,rfl,rfl⟩ | ⟨rfl,rfl,rfl⟩ | ⟨rfl,rfl,rfl⟩
  all_goals (unfold opk;simp only[Lib.toList_data];rfl)
 have h0:¬opk o=0:=by
  rw[hp];rcases hm with ⟨-,h,-⟩ | ⟨-,h,-⟩ | ⟨-,h,-⟩
  all_goals omega
 have HO:Hid (∀ w,Calls Tryz.prog 140 #[.string o] w fun e w'=>e = .returned (.func (.func f) #[] #[])∧w=w'):=by
  rcases hm with ⟨rfl,rfl,rfl⟩ | ⟨rfl,rfl,rfl⟩ | ⟨rfl,rfl,rfl⟩
  ·exact fun w=>op1 w
  ·exact fun w=>op2 w
  ·exact fun w=>op3 w
 have HG:Hid (∀ w,Calls Tryz.prog f #[.int .i64 a.i,.int .i64 b.i] w fun e w'=>e = .returned (.tuple #[.int .i64 (numR m a.i b.i),.int .i64 (numE m a.i b.i)])∧w=w'):=by
  rcases hm with ⟨rfl,rfl,rfl⟩ | ⟨rfl,rfl,rfl⟩ | ⟨rfl,rfl,rfl⟩
  ·exact fun w=>add_any a.i b.i w ha hb
  ·exact fun w=>subtract_any a.i b.i w ha hb
  ·exact fun w=>multiply_any a.i b.i w ha hb
 have hfe:Proofs.Enters Tryz.prog f:=by
  rcases hm with ⟨rfl,rfl,rfl⟩ | ⟨rfl,rfl,rfl⟩ | ⟨rfl,rfl,rfl⟩
  ·exact Proofs.enters_of Tryz.func170 (by kernel_rfl) rfl
  ·exact Proofs.enters_of Tryz.func171 (by kernel_rfl) rfl
  ·exact Proofs.enters_of Tryz.func172 (by kernel_rfl) rfl
 have hen:∀ (args:Array Value) (w:World),(callFunc f args).run Tryz.prog w = .ok (.enter f args) w:=hfe;clear hfe hm;have HB:=Hi (three_boxes w a b);have HW:=Hi (fun W H hH=>wrong2_any a b W H hH)
 clear ha hb;cases hok:allOk [a,b]
 ·rw[(ar_bad hok).1,(ar_bad hok).2]
  rw[hok]at HW;clear hok HG hp h0;have hfn:=@run_eql_func_nil;go_enter Tryz.func91,Tryz.ntmps91
  go_wp2_with (go_at_call 140;refine(HO.out _).mono ?_;rintro e w' ⟨rfl,rfl⟩)
  refine(HW.out _ _ (by simp)).mono ?_
  rintro e w1 ⟨rfl,hb1,hs1⟩;have H1:=Hi (HB.out.call (bele hb1 (by simp)))
  obtain⟨g0,g1,g2⟩:=H1.out.box.cells;obtain⟨f0,f1,f2⟩:=H1.out.box.free;simp only[zV]at g0 g1 g2;go_wp2_with fail;exact bodyPost_ret (v:= .tuple #[.agg #[.int .i64 0,.int .i64 0,.string ⟨#[]⟩],.int .i64 1]) (by simp[results,Tryz.results91,go_sem,g0,g1,g2]) rfl ⟨rfl,Below.set3 H1.out.below (by omega) _ _ _⟩
 ·rw[hok]at HW
  have HS:=Hi (fun W H hH=>strict2_any 4 4 0 a b W H hH (Or.inl rfl) (Or.inl rfl) hok)
  cases hk:okK [4,4,0] [a,b]
  ·rw[(ar_kind h0 hok hk).1,(ar_kind h0 hok hk).2]
   unfold stN stE at HS;rw[hk]at HS;clear hok hk HG hp h0;have hfn:=@run_eql_func_nil;go_enter Tryz.func91,Tryz.ntmps91
   go_wp2_with (go_at_call 140;refine(HO.out _).mono ?_;rintro e w' ⟨rfl,rfl⟩)
   refine(HW.out _ _ (by simp)).mono ?_
   rintro e w1 ⟨rfl,hb1,hs1⟩;have H1:=Hi (HB.out.call (bele hb1 (by simp)))
   obtain⟨c0,c1,c2⟩:=H1.out.tail.box.cells;obtain⟨d0,d1,d2⟩:=H1.out.tail.tail.box.cells;go_wp2_with fail;refine(HS.out _ _ rfl).mono ?_;rintro e w2 ⟨rfl,hb2,hs2⟩;have H2:=Hi (H1.out.call hb2);obtain⟨g0,g1,g2⟩:=H2.out.box.cells;obtain⟨f0,f1,f2⟩:=H2.out.box.free;simp only[zV]at g0 g1 g2;clear c0 c1 c2 d0 d1 d2;go_wp2_with fail;exact bodyPost_ret (v:= .tuple #[.agg #[.int .i64 0,.int .i64 0,.string ⟨#[]⟩],.int .i64 20]) (by simp[results,Tryz.results91,go_sem,g0,g1,g2]) rfl ⟨rfl,Below.set3 H2.out.below (by omega) _ _ _⟩
  ·unfold stN stE at HS
   rw[hk]at HS;cases hn:nulB [a,b]
   ·obtain⟨q1,q2⟩:=ar_num h0 hok hk hn
    rw[q1,q2,hp];rw[hn]at HS;clear hok hk hn hp h0 q1 q2;generalize numR m a.i b.i=x at *;generalize numE m a.i b.i=y at *;have HG':Hid (∀ w,Calls Tryz.prog f #[.int .i64 a.i,.int .i64 b.i] w fun e w'=>e = .returned (.tuple #[.int .i64 x,.int .i64 y])∧w=w'):=HG.out
    by_cases hy:y=0
    ·subst hy
     rw[if_pos rfl];have hfn:=@run_eql_func_nil;go_enter Tryz.func91,Tryz.ntmps91
     go_wp2_with (go_at_call 140;refine(HO.out _).mono ?_;rintro e w' ⟨rfl,rfl⟩)
     refine(HW.out _ _ (by simp)).mono ?_
     rintro e w1 ⟨rfl,hb1,hs1⟩;have H1:=Hi (HB.out.call (bele hb1 (by simp)))
     obtain⟨c0,c1,c2⟩:=H1.out.tail.box.cells;obtain⟨d0,d1,d2⟩:=H1.out.tail.tail.box.cells;go_wp2_with fail;refine(HS.out _ _ rfl).mono ?_;rintro e w2 ⟨rfl,hb2,hs2⟩;have H2:=Hi (H1.out.call hb2);clear c0 c1 c2 d0 d1 d2;obtain⟨c0,c1,c2⟩:=H2.out.tail.box.cells;obtain⟨d0,d1,d2⟩:=H2.out.tail.tail.box.cells;go_wp2_with fail;refine(HG'.out _).mono ?_;rintro e w' ⟨rfl,rfl⟩;go_wp2_with fail;refine(number_any _ _).mono ?_;rintro e w3 ⟨rfl,hb3⟩;have H3:=Hi (H2.out.call hb3);obtain⟨g0,g1,g2⟩:=H3.out.box.cells;obtain⟨f0,f1,f2⟩:=H3.out.box.free;simp only[zV]at g0 g1 g2;clear c0 c1 c2 d0 d1 d2;go_wp2_with fail;exact bodyPost_ret (v:= .tuple #[.agg #[.int .i64 2,.int .i64 x,.string ⟨#[]⟩],.int .i64 0]) (by simp[results,Tryz.results91,go_sem,g0,g1,g2]) rfl ⟨rfl,Below.set3 H3.out.below (by omega) _ _ _⟩
    ·have hy':(y != 0)=true:=by simpa using hy
     rw[if_neg hy];clear hy;have hfn:=@run_eql_func_nil;go_enter Tryz.func91,Tryz.ntmps91
     go_wp2_with (go_at_call 140;refine(HO.out _).mono ?_;rintro e w' ⟨rfl,rfl⟩)
     refine(HW.out _ _ (by simp)).mono ?_
     rintro e w1 ⟨rfl,hb1,hs1⟩;have H1:=Hi (HB.out.call (bele hb1 (by simp)))
     obtain⟨c0,c1,c2⟩:=H1.out.tail.box.cells;obtain⟨d0,d1,d2⟩:=H1.out.tail.tail.box.cells;go_wp2_with fail;refine(HS.out _ _ rfl).mono ?_;rintro e w2 ⟨rfl,hb2,hs2⟩;have H2:=Hi (H1.out.call hb2);clear c0 c1 c2 d0 d1 d2;obtain⟨c0,c1,c2⟩:=H2.out.tail.box.cells;obtain⟨d0,d1,d2⟩:=H2.out.tail.tail.box.cells;go_wp2_with fail;refine(HG'.out _).mono ?_;rintro e w' ⟨rfl,rfl⟩;have H3:=Hi (H2.out);obtain⟨g0,g1,g2⟩:=H2.out.box.cells;obtain⟨f0,f1,f2⟩:=H2.out.box.free;simp only[zV]at g0 g1 g2;go_wp2_with fail;exact bodyPost_ret (v:= .tuple #[.agg #[.int .i64 0,.int .i64 0,.string ⟨#[]⟩],.int .i64 y]) (by simp[results,Tryz.results91,go_sem,g0,g1,g2]) rfl ⟨rfl,Below.set3 H3.out.below (by omega) _ _ _⟩
   ·rw[(ar_null h0 hok hk hn).1,(ar_null h0 hok hk hn).2]
    rw[hn]at HS;clear hok hk hn HG hp h0;have hfn:=@run_eql_func_nil;go_enter Tryz.func91,Tryz.ntmps91
    go_wp2_with (go_at_call 140;refine(HO.out _).mono ?_;rintro e w' ⟨rfl,rfl⟩)
    refine(HW.out _ _ (by simp)).mono ?_
    rintro e w1 ⟨rfl,hb1,hs1⟩;have H1:=Hi (HB.out.call (bele hb1 (by simp)))
    obtain⟨c0,c1,c2⟩:=H1.out.tail.box.cells;obtain⟨d0,d1,d2⟩:=H1.out.tail.tail.box.cells;go_wp2_with fail;refine(HS.out _ _ rfl).mono ?_;rintro e w2 ⟨rfl,hb2,hs2⟩;have H2:=Hi (H1.out.call hb2);obtain⟨g0,g1,g2⟩:=H2.out.box.cells;obtain⟨f0,f1,f2⟩:=H2.out.box.free;simp only[zV]at g0 g1 g2;clear c0 c1 c2 d0 d1 d2;go_wp2_with fail;exact bodyPost_ret (v:= .tuple #[.agg #[.int .i64 0,.int .i64 0,.string ⟨#[]⟩],.int .i64 0]) (by simp[results,Tryz.results91,go_sem,g0,g1,g2]) rfl ⟨rfl,Below.set3 H2.out.below (by omega) _ _ _⟩
theorem arith4(a b:V)(w:World)(ha:In64 a.i)(hb:In64 b.i) :
  Calls Tryz.prog 91 #[.string ⟨#[47]⟩,.agg #[.int .i64 a.k,.int .i64 a.i,.string a.s],.agg #[.int .i64 b.k,.int .i64 b.i,.string b.s]] w fun e w'=>e = .returned (.tuple #[.agg #[.int .i64 (arV ⟨#[47]⟩ a b).k,.int .i64 (arV ⟨#[47]⟩ a b).i,.string (arV ⟨#[47]⟩ a b).s],.int .i64 (arE ⟨#[47]⟩ a b)])∧Below w.heap.size w w':=by
 have hp:opk ⟨#[47]⟩=4:=by unfold opk;simp only[Lib.toList_data];rfl
 have h0:¬opk ⟨#[47]⟩=0:=by omega
 have HO:=Hi (fun w=>op4 w)
 have HB:=Hi (three_boxes w a b);have HW:=Hi (fun W H hH=>wrong2_any a b W H hH)
 have HG:=Hi (fun w=>divide_any a.i b.i w ha hb)
 clear ha hb;cases hok:allOk [a,b]
 ·rw[(ar_bad hok).1,(ar_bad hok).2]
  rw[hok]at HW;clear hok HG hp h0;have hfn:=@run_eql_func_nil;go_enter Tryz.func91,Tryz.ntmps91
  go_wp2_with (go_at_call 140;refine(HO.out _).mono ?_;rintro e w' ⟨rfl,rfl⟩)
  refine(HW.out _ _ (by simp)).mono ?_
  rintro e w1 ⟨rfl,hb1,hs1⟩;have H1:=Hi (HB.out.call (bele hb1 (by simp)))
  obtain⟨g0,g1,g2⟩:=H1.out.box.cells;obtain⟨f0,f1,f2⟩:=H1.out.box.free;simp only[zV]at g0 g1 g2;go_wp2_with fail;exact bodyPost_ret (v:= .tuple #[.agg #[.int .i64 0,.int .i64 0,.string ⟨#[]⟩],.int .i64 1]) (by simp[results,Tryz.results91,go_sem,g0,g1,g2]) rfl ⟨rfl,Below.set3 H1.out.below (by omega) _ _ _⟩
 ·rw[hok]at HW
  have HS:=Hi (fun W H hH=>strict2_any 4 4 0 a b W H hH (Or.inl rfl) (Or.inl rfl) hok)
  cases hk:okK [4,4,0] [a,b]
  ·rw[(ar_kind h0 hok hk).1,(ar_kind h0 hok hk).2]
   unfold stN stE at HS;rw[hk]at HS;clear hok hk HG hp h0;have hfn:=@run_eql_func_nil;go_enter Tryz.func91,Tryz.ntmps91
   go_wp2_with (go_at_call 140;refine(HO.out _).mono ?_;rintro e w' ⟨rfl,rfl⟩)
   refine(HW.out _ _ (by simp)).mono ?_
   rintro e w1 ⟨rfl,hb1,hs1⟩;have H1:=Hi (HB.out.call (bele hb1 (by simp)))
   obtain⟨c0,c1,c2⟩:=H1.out.tail.box.cells;obtain⟨d0,d1,d2⟩:=H1.out.tail.tail.box.cells;go_wp2_with fail;refine(HS.out _ _ rfl).mono ?_;rintro e w2 ⟨rfl,hb2,hs2⟩;have H2:=Hi (H1.out.call hb2);obtain⟨g0,g1,g2⟩:=H2.out.box.cells;obtain⟨f0,f1,f2⟩:=H2.out.box.free;simp only[zV]at g0 g1 g2;clear c0 c1 c2 d0 d1 d2;go_wp2_with fail;exact bodyPost_ret (v:= .tuple #[.agg #[.int .i64 0,.int .i64 0,.string ⟨#[]⟩],.int .i64 20]) (by simp[results,Tryz.results91,go_sem,g0,g1,g2]) rfl ⟨rfl,Below.set3 H2.out.below (by omega) _ _ _⟩
  ·unfold stN stE at HS
   rw[hk]at HS;cases hn:nulB [a,b]
   ·obtain⟨q1,q2⟩:=ar_num h0 hok hk hn
    rw[q1,q2,hp];rw[hn]at HS;clear hok hk hn hp h0 q1 q2;generalize numR 4 a.i b.i=x at *;generalize numE 4 a.i b.i=y at *;have HG':Hid (∀ w,Calls Tryz.prog 173 #[.int .i64 a.i,.int .i64 b.i] w fun e w'=>e = .returned (.tuple #[.int .i64 x,.int .i64 y])∧∃ n,w'=w.drewN n):=HG.out
    by_cases hy:y=0
    ·subst hy
     rw[if_pos rfl];have hfn:=@run_eql_func_nil;go_enter Tryz.func91,Tryz.ntmps91
     go_wp2_with (go_at_call 140;refine(HO.out _).mono ?_;rintro e w' ⟨rfl,rfl⟩)
     refine(HW.out _ _ (by simp)).mono ?_
     rintro e w1 ⟨rfl,hb1,hs1⟩;have H1:=Hi (HB.out.call (bele hb1 (by simp)))
     obtain⟨c0,c1,c2⟩:=H1.out.tail.box.cells;obtain⟨d0,d1,d2⟩:=H1.out.tail.tail.box.cells;go_wp2_with fail;refine(HS.out _ _ rfl).mono ?_;rintro e w2 ⟨rfl,hb2,hs2⟩;have H2:=Hi (H1.out.call hb2);clear c0 c1 c2 d0 d1 d2;obtain⟨c0,c1,c2⟩:=H2.out.tail.box.cells;obtain⟨d0,d1,d2⟩:=H2.out.tail.tail.box.cells;go_wp2_with fail;refine(HG'.out _).mono ?_;rintro e w' ⟨rfl,dn,rfl⟩;go_wp2_with fail;refine(number_any _ _).mono ?_;rintro e w3 ⟨rfl,hb3⟩;have H3:=Hi ((H2.out.drewN dn).call hb3);obtain⟨g0,g1,g2⟩:=H3.out.box.cells;obtain⟨f0,f1,f2⟩:=H3.out.box.free;simp only[zV]at g0 g1 g2;clear c0 c1 c2 d0 d1 d2;go_wp2_with fail;exact bodyPost_ret (v:= .tuple #[.agg #[.int .i64 2,.int .i64 x,.string ⟨#[]⟩],.int .i64 0]) (by simp[results,Tryz.results91,go_sem,g0,g1,g2]) rfl ⟨rfl,Below.set3 H3.out.below (by omega) _ _ _⟩
    ·have hy':(y != 0)=true:=by simpa using hy
     rw[if_neg hy];clear hy;have hfn:=@run_eql_func_nil;go_enter Tryz.func91,Tryz.ntmps91
     go_wp2_with (go_at_call 140;refine(HO.out _).mono ?_;rintro e w' ⟨rfl,rfl⟩)
     refine(HW.out _ _ (by simp)).mono ?_
     rintro e w1 ⟨rfl,hb1,hs1⟩;have H1:=Hi (HB.out.call (bele hb1 (by simp)))
     obtain⟨c0,c1,c2⟩:=H1.out.tail.box.cells;obtain⟨d0,d1,d2⟩:=H1.out.tail.tail.box.cells;go_wp2_with fail;refine(HS.out _ _ rfl).mono ?_;rintro e w2 ⟨rfl,hb2,hs2⟩;have H2:=Hi (H1.out.call hb2);clear c0 c1 c2 d0 d1 d2;obtain⟨c0,c1,c2⟩:=H2.out.tail.box.cells;obtain⟨d0,d1,d2⟩:=H2.out.tail.tail.box.cells;go_wp2_with fail;refine(HG'.out _).mono ?_;rintro e w' ⟨rfl,dn,rfl⟩;have H3:=Hi ((H2.out.drewN dn));obtain⟨g0,g1,g2⟩:=H2.out.box.cells;obtain⟨f0,f1,f2⟩:=H2.out.box.free;simp only[zV]at g0 g1 g2;go_wp2_with fail;exact bodyPost_ret (v:= .tuple #[.agg #[.int .i64 0,.int .i64 0,.string ⟨#[]⟩],.int .i64 y]) (by simp[results,Tryz.results91,go_sem,g0,g1,g2]) rfl ⟨rfl,Below.set3 H3.out.below (by omega) _ _ _⟩
   ·rw[(ar_null h0 hok hk hn).1,(ar_null h0 hok hk hn).2]
    rw[hn]at HS;clear hok hk hn HG hp h0;have hfn:=@run_eql_func_nil;go_enter Tryz.func91,Tryz.ntmps91
    go_wp2_with (go_at_call 140;refine(HO.out _).mono ?_;rintro e w' ⟨rfl,rfl⟩)
    refine(HW.out _ _ (by simp)).mono ?_
    rintro e w1 ⟨rfl,hb1,hs1⟩;have H1:=Hi (HB.out.call (bele hb1 (by simp)))
    obtain⟨c0,c1,c2⟩:=H1.out.tail.box.cells;obtain⟨d0,d1,d2⟩:=H1.out.tail.tail.box.cells;go_wp2_with fail;refine(HS.out _ _ rfl).mono ?_;rintro e w2 ⟨rfl,hb2,hs2⟩;have H2:=Hi (H1.out.call hb2);obtain⟨g0,g1,g2⟩:=H2.out.box.cells;obtain⟨f0,f1,f2⟩:=H2.out.box.free;simp only[zV]at g0 g1 g2;clear c0 c1 c2 d0 d1 d2;go_wp2_with fail;exact bodyPost_ret (v:= .tuple #[.agg #[.int .i64 0,.int .i64 0,.string ⟨#[]⟩],.int .i64 0]) (by simp[results,Tryz.results91,go_sem,g0,g1,g2]) rfl ⟨rfl,Below.set3 H2.out.below (by omega) _ _ _⟩
theorem arith5(a b:V)(w:World)(ha:In64 a.i)(hb:In64 b.i) :
  Calls Tryz.prog 91 #[.string ⟨#[37]⟩,.agg #[.int .i64 a.k,.int .i64 a.i,.string a.s],.agg #[.int .i64 b.k,.int .i64 b.i,.string b.s]] w fun e w'=>e = .returned (.tuple #[.agg #[.int .i64 (arV ⟨#[37]⟩ a b).k,.int .i64 (arV ⟨#[37]⟩ a b).i,.string (arV ⟨#[37]⟩ a b).s],.int .i64 (arE ⟨#[37]⟩ a b)])∧Below w.heap.size w w':=by
 have hp:opk ⟨#[37]⟩=5:=by unfold opk;simp only[Lib.toList_data];rfl
 have h0:¬opk ⟨#[37]⟩=0:=by omega
 have HO:=Hi (fun w=>op5 w)
 have HB:=Hi (three_boxes w a b);have HW:=Hi (fun W H hH=>wrong2_any a b W H hH)
 have HG:=Hi (fun w=>remain_any a.i b.i w ha hb)
 clear ha hb;cases hok:allOk [a,b]
 ·rw[(ar_bad hok).1,(ar_bad hok).2]
  rw[hok]at HW;clear hok HG hp h0;have hfn:=@run_eql_func_nil;go_enter Tryz.func91,Tryz.ntmps91
  go_wp2_with (go_at_call 140;refine(HO.out _).mono ?_;rintro e w' ⟨rfl,rfl⟩)
  refine(HW.out _ _ (by simp)).mono ?_
  rintro e w1 ⟨rfl,hb1,hs1⟩;have H1:=Hi (HB.out.call (bele hb1 (by simp)))
  obtain⟨g0,g1,g2⟩:=H1.out.box.cells;obtain⟨f0,f1,f2⟩:=H1.out.box.free;simp only[zV]at g0 g1 g2;go_wp2_with fail;exact bodyPost_ret (v:= .tuple #[.agg #[.int .i64 0,.int .i64 0,.string ⟨#[]⟩],.int .i64 1]) (by simp[results,Tryz.results91,go_sem,g0,g1,g2]) rfl ⟨rfl,Below.set3 H1.out.below (by omega) _ _ _⟩
 ·rw[hok]at HW
  have HS:=Hi (fun W H hH=>strict2_any 4 4 0 a b W H hH (Or.inl rfl) (Or.inl rfl) hok)
  cases hk:okK [4,4,0] [a,b]
  ·rw[(ar_kind h0 hok hk).1,(ar_kind h0 hok hk).2]
   unfold stN stE at HS;rw[hk]at HS;clear hok hk HG hp h0;have hfn:=@run_eql_func_nil;go_enter Tryz.func91,Tryz.ntmps91
   go_wp2_with (go_at_call 140;refine(HO.out _).mono ?_;rintro e w' ⟨rfl,rfl⟩)
   refine(HW.out _ _ (by simp)).mono ?_
   rintro e w1 ⟨rfl,hb1,hs1⟩;have H1:=Hi (HB.out.call (bele hb1 (by simp)))
   obtain⟨c0,c1,c2⟩:=H1.out.tail.box.cells;obtain⟨d0,d1,d2⟩:=H1.out.tail.tail.box.cells;go_wp2_with fail;refine(HS.out _ _ rfl).mono ?_;rintro e w2 ⟨rfl,hb2,hs2⟩;have H2:=Hi (H1.out.call hb2);obtain⟨g0,g1,g2⟩:=H2.out.box.cells;obtain⟨f0,f1,f2⟩:=H2.out.box.free;simp only[zV]at g0 g1 g2;clear c0 c1 c2 d0 d1 d2;go_wp2_with fail;exact bodyPost_ret (v:= .tuple #[.agg #[.int .i64 0,.int .i64 0,.string ⟨#[]⟩],.int .i64 20]) (by simp[results,Tryz.results91,go_sem,g0,g1,g2]) rfl ⟨rfl,Below.set3 H2.out.below (by omega) _ _ _⟩
  ·unfold stN stE at HS
   rw[hk]at HS;cases hn:nulB [a,b]
   ·obtain⟨q1,q2⟩:=ar_num h0 hok hk hn
    rw[q1,q2,hp];rw[hn]at HS;clear hok hk hn hp h0 q1 q2;generalize numR 5 a.i b.i=x at *;generalize numE 5 a.i b.i=y at *;have HG':Hid (∀ w,Calls Tryz.prog 174 #[.int .i64 a.i,.int .i64 b.i] w fun e w'=>e = .returned (.tuple #[.int .i64 x,.int .i64 y])∧w=w'):=HG.out
    by_cases hy:y=0
    ·subst hy
     rw[if_pos rfl];have hfn:=@run_eql_func_nil;go_enter Tryz.func91,Tryz.ntmps91
     go_wp2_with (go_at_call 140;refine(HO.out _).mono ?_;rintro e w' ⟨rfl,rfl⟩)
     refine(HW.out _ _ (by simp)).mono ?_
     rintro e w1 ⟨rfl,hb1,hs1⟩;have H1:=Hi (HB.out.call (bele hb1 (by simp)))
     obtain⟨c0,c1,c2⟩:=H1.out.tail.box.cells;obtain⟨d0,d1,d2⟩:=H1.out.tail.tail.box.cells;go_wp2_with fail;refine(HS.out _ _ rfl).mono ?_;rintro e w2 ⟨rfl,hb2,hs2⟩;have H2:=Hi (H1.out.call hb2);clear c0 c1 c2 d0 d1 d2;obtain⟨c0,c1,c2⟩:=H2.out.tail.box.cells;obtain⟨d0,d1,d2⟩:=H2.out.tail.tail.box.cells;go_wp2_with fail;refine(HG'.out _).mono ?_;rintro e w' ⟨rfl,rfl⟩;go_wp2_with fail;refine(number_any _ _).mono ?_;rintro e w3 ⟨rfl,hb3⟩;have H3:=Hi (H2.out.call hb3);obtain⟨g0,g1,g2⟩:=H3.out.box.cells;obtain⟨f0,f1,f2⟩:=H3.out.box.free;simp only[zV]at g0 g1 g2;clear c0 c1 c2 d0 d1 d2;go_wp2_with fail;exact bodyPost_ret (v:= .tuple #[.agg #[.int .i64 2,.int .i64 x,.string ⟨#[]⟩],.int .i64 0]) (by simp[results,Tryz.results91,go_sem,g0,g1,g2]) rfl ⟨rfl,Below.set3 H3.out.below (by omega) _ _ _⟩
    ·have hy':(y != 0)=true:=by simpa using hy
     rw[if_neg hy];clear hy;have hfn:=@run_eql_func_nil;go_enter Tryz.func91,Tryz.ntmps91
     go_wp2_with (go_at_call 140;refine(HO.out _).mono ?_;rintro e w' ⟨rfl,rfl⟩)
     refine(HW.out _ _ (by simp)).mono ?_
     rintro e w1 ⟨rfl,hb1,hs1⟩;have H1:=Hi (HB.out.call (bele hb1 (by simp)))
     obtain⟨c0,c1,c2⟩:=H1.out.tail.box.cells;obtain⟨d0,d1,d2⟩:=H1.out.tail.tail.box.cells;go_wp2_with fail;refine(HS.out _ _ rfl).mono ?_;rintro e w2 ⟨rfl,hb2,hs2⟩;have H2:=Hi (H1.out.call hb2);clear c0 c1 c2 d0 d1 d2;obtain⟨c0,c1,c2⟩:=H2.out.tail.box.cells;obtain⟨d0,d1,d2⟩:=H2.out.tail.tail.box.cells;go_wp2_with fail;refine(HG'.out _).mono ?_;rintro e w' ⟨rfl,rfl⟩;have H3:=Hi (H2.out);obtain⟨g0,g1,g2⟩:=H2.out.box.cells;obtain⟨f0,f1,f2⟩:=H2.out.box.free;simp only[zV]at g0 g1 g2;go_wp2_with fail;exact bodyPost_ret (v:= .tuple #[.agg #[.int .i64 0,.int .i64 0,.string ⟨#[]⟩],.int .i64 y]) (by simp[results,Tryz.results91,go_sem,g0,g1,g2]) rfl ⟨rfl,Below.set3 H3.out.below (by omega) _ _ _⟩
   ·rw[(ar_null h0 hok hk hn).1,(ar_null h0 hok hk hn).2]
    rw[hn]at HS;clear hok hk hn HG hp h0;have hfn:=@run_eql_func_nil;go_enter Tryz.func91,Tryz.ntmps91
    go_wp2_with (go_at_call 140;refine(HO.out _).mono ?_;rintro e w' ⟨rfl,rfl⟩)
    refine(HW.out _ _ (by simp)).mono ?_
    rintro e w1 ⟨rfl,hb1,hs1⟩;have H1:=Hi (HB.out.call (bele hb1 (by simp)))
    obtain⟨c0,c1,c2⟩:=H1.out.tail.box.cells;obtain⟨d0,d1,d2⟩:=H1.out.tail.tail.box.cells;go_wp2_with fail;refine(HS.out _ _ rfl).mono ?_;rintro e w2 ⟨rfl,hb2,hs2⟩;have H2:=Hi (H1.out.call hb2);obtain⟨g0,g1,g2⟩:=H2.out.box.cells;obtain⟨f0,f1,f2⟩:=H2.out.box.free;simp only[zV]at g0 g1 g2;clear c0 c1 c2 d0 d1 d2;go_wp2_with fail;exact bodyPost_ret (v:= .tuple #[.agg #[.int .i64 0,.int .i64 0,.string ⟨#[]⟩],.int .i64 0]) (by simp[results,Tryz.results91,go_sem,g0,g1,g2]) rfl ⟨rfl,Below.set3 H2.out.below (by omega) _ _ _⟩
theorem arith_any(op:ByteArray)(a b:V)(w:World)(ha:In64 a.i)(hb:In64 b.i) :
  Calls Tryz.prog 91 #[.string op,.agg #[.int .i64 a.k,.int .i64 a.i,.string a.s],.agg #[.int .i64 b.k,.int .i64 b.i,.string b.s]] w fun e w'=>e = .returned (.tuple #[.agg #[.int .i64 (arV op a b).k,.int .i64 (arV op a b).i,.string (arV op a b).s],.int .i64 (arE op a b)])∧Below w.heap.size w w':=by
 rcases opk_cases op with ⟨rfl,-⟩ | ⟨rfl,-⟩ | ⟨rfl,-⟩ | ⟨rfl,-⟩ | ⟨rfl,-⟩ | ⟨h0,h1,h2,h3,h4,h5⟩
 ·exact arith1 _ 1 _ (.inl ⟨rfl,rfl,rfl⟩) a b w ha hb
 ·exact arith1 _ 2 _ (.inr (.inl ⟨rfl,rfl,rfl⟩)) a b w ha hb
 ·exact arith1 _ 3 _ (.inr (.inr ⟨rfl,rfl,rfl⟩)) a b w ha hb
 ·exact arith4 a b w ha hb
 ·exact arith5 a b w ha hb
 ·exact arith0 op a b w h1 h2 h3 h4 h5 h0
end Go.Proofs.YtcicpjgnpcnnmaaGreatDoor.SC
