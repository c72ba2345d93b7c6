import Derived.Test.YtcicpjgnpcnnmaaGreatDoorQ11
set_option maxRecDepth 100000
set_option maxHeartbeats 8000000
set_option linter.unusedSimpArgs false
set_option linter.unusedVariables false
namespace Go.Proofs.YtcicpjgnpcnnmaaGreatDoor
open Go.RowKit
open SC (HV VBox zero_box Args)
theorem bel_allocE{b w:World}(h:Below b.heap.size b w)(o:Obj):Below b.heap.size b (w.alloc o):=h.alloc h.size o
theorem bel_drewE{b w:World}(h:Below b.heap.size b w):Below b.heap.size b w.drew:=h.drew
theorem bel_setE{b w:World}{g o:Nat}(hg:b.heap.size≤g)(h:Below b.heap.size b w)(u:Value):Below b.heap.size b (w.setCell ⟨g,o,none⟩ u):=h.setCell (p:=⟨g,o,none⟩) hg _
theorem s9_of{w:World}{g:Nat}{a b c:BV.V}(h:Args w g [a,b,c])(w':World)(hb:Below w.heap.size w w'):(fun w'=>Below w.heap.size w w'∧w'.cell? ⟨g,0,none⟩=some (.int .i64 a.k)∧w'.cell? ⟨g,1,none⟩=some (.int .i64 a.i)∧w'.cell? ⟨g,2,none⟩=some (.string a.s)∧w'.cell? ⟨g,3,none⟩=some (.int .i64 b.k)∧w'.cell? ⟨g,4,none⟩=some (.int .i64 b.i)∧w'.cell? ⟨g,5,none⟩=some (.string b.s)∧w'.cell? ⟨g,6,none⟩=some (.int .i64 c.k)∧w'.cell? ⟨g,7,none⟩=some (.int .i64 c.i)∧w'.cell? ⟨g,8,none⟩=some (.string c.s)∧True) w':=by
 have h':=h.later hb;exact⟨hb,h'.cell 0,h'.cell 1,h'.cell 2,h'.cell 3,h'.cell 4,h'.cell 5,h'.cell 6,h'.cell 7,h'.cell 8,trivial⟩
theorem vset{w:World}{b:Nat}{v:BV.V}(h:VBox w b v)(k i:Int)(s:ByteArray):VBox (((w.setCell ⟨b,0,none⟩ (.int .i64 k)).setCell ⟨b,1,none⟩ (.int .i64 i)).setCell ⟨b,2,none⟩ (.string s)) b ⟨k,i,s⟩:=by
 unfold SC.VBox;rw[Lib.heap_setCell_same (Lib.heap_setCell_same (Lib.heap_setCell_same h _) _) _]
 rfl
theorem vmade(w:World)(k i:Int)(s:ByteArray):VBox (w.alloc (.cells #[.int .i64 k,.int .i64 i,.string s] 26)) w.heap.size ⟨k,i,s⟩:=VBox.made w ⟨k,i,s⟩
theorem raw0{w:World}:VBox (w.alloc (.cells #[.int .i64 0,.int .i64 0,.string ⟨#[]⟩] 26)) w.heap.size SC.zV:=VBox.made w SC.zV
theorem vdrew{w:World}{b:Nat}{v:BV.V}(h:VBox w b v):VBox w.drew b v:=h
theorem with_fct{A P:Prop}(h:A)(k:A→P):P:=k h
theorem dvBetween(g:Nat)(xs:List BV.V)(w:World)(hx:Args w g xs) :
  Calls Tryz.prog 107 #[.slice (some ⟨g,0,none⟩) xs.length xs.length] w fun e w'=>e = .returned (vA (three3 dBetween xs))∧Below w.heap.size w w':=by
 have HZ:=Hi (zero_box w);have hx1:=hx.later HZ.out.below
 by_cases hl:xs.length=3
 ·obtain⟨a,b,c,rfl⟩:∃ a b c,xs = [a,b,c]:=by
   match xs,hl with
   | [a,b,c],_=>exact⟨_,_,_,rfl⟩
  show Calls Tryz.prog 107 _ _ fun e w'=>e = .returned (vA (dBetween a b c))∧_
  have HX:=Hi hx1;have H1:Hid (∀ w,Calls Tryz.prog 101 #[.string ⟨#[62,61]⟩,vV a,vV b] w fun e w'=>e = .returned (vA (LG.relE bGe a b,LG.relR bGe a b))∧Below w.heap.size w w'):=fun w=>LG.rel_any bGe a b w
  have H2:Hid (∀ w,Calls Tryz.prog 101 #[.string ⟨#[60,61]⟩,vV a,vV c] w fun e w'=>e = .returned (vA (LG.relE bLe a c,LG.relR bLe a c))∧Below w.heap.size w w'):=fun w=>LG.rel_any bLe a c w
  have H3:Hid (∀ h w,Args w h [LG.relR bGe a b,LG.relR bLe a c]→Calls Tryz.prog 97 #[.slice (some ⟨h,0,none⟩) 2 2] w fun e w'=>e = .returned (vA (LG.ctL [LG.relR bGe a b,LG.relR bLe a c],LG.decV false [LG.relR bGe a b,LG.relR bLe a c]))∧Below w.heap.size w w'):=fun h w hA=>LG.and_any [LG.relR bGe a b,LG.relR bLe a c] _ 2 w hA.row (by simp)
  have hd:dBetween a b c=if LG.relE bGe a b≠0 then (LG.relE bGe a b,zW)else if LG.relE bLe a c≠0 then (LG.relE bLe a c,zW)else (LG.ctL [LG.relR bGe a b,LG.relR bLe a c],LG.decV false [LG.relR bGe a b,LG.relR bLe a c]):=rfl
  rw[hd];clear hd;have F1:=Hi (fun(h:LG.relE bGe a b≠0)=>(if_pos h:(if LG.relE bGe a b≠0 then (LG.relE bGe a b,zW)else if LG.relE bLe a c≠0 then (LG.relE bLe a c,zW)else (LG.ctL [LG.relR bGe a b,LG.relR bLe a c],LG.decV false [LG.relR bGe a b,LG.relR bLe a c]))=_))
  have F2:=Hi (fun(h:¬LG.relE bGe a b≠0) (h':LG.relE bLe a c≠0)=>((if_neg h).trans (if_pos h'):(if LG.relE bGe a b≠0 then (LG.relE bGe a b,zW)else if LG.relE bLe a c≠0 then (LG.relE bLe a c,zW)else (LG.ctL [LG.relR bGe a b,LG.relR bLe a c],LG.decV false [LG.relR bGe a b,LG.relR bLe a c]))=_))
  have F3:=Hi (fun(h:¬LG.relE bGe a b≠0) (h':¬LG.relE bLe a c≠0)=>((if_neg h).trans (if_neg h'):(if LG.relE bGe a b≠0 then (LG.relE bGe a b,zW)else if LG.relE bLe a c≠0 then (LG.relE bLe a c,zW)else (LG.ctL [LG.relR bGe a b,LG.relR bLe a c],LG.decV false [LG.relR bGe a b,LG.relR bLe a c]))=_))
  generalize (if LG.relE bGe a b≠0 then (LG.relE bGe a b,zW)else if LG.relE bLe a c≠0 then (LG.relE bLe a c,zW)else (LG.ctL [LG.relR bGe a b,LG.relR bLe a c],LG.decV false [LG.relR bGe a b,LG.relR bLe a c]))=fin at *
  obtain⟨fe,fk,fi,fs⟩:=fin;generalize ((LG.ctL [LG.relR bGe a b,LG.relR bLe a c],LG.decV false [LG.relR bGe a b,LG.relR bLe a c]):Ans)=an at *;obtain⟨er,uk,ui,us⟩:=an;generalize LG.relE bGe a b=e1 at *;generalize LG.relE bLe a c=e2 at *;generalize LG.relR bGe a b=r1 at *;generalize LG.relR bLe a c=r2 at *;obtain⟨pk,pi,ps⟩:=r1;obtain⟨qk,qi,qs⟩:=r2;unfold vA vV at *;unfold zW at F1 F2;simp only[List.length_cons,List.length_nil,Nat.zero_add]at H1 H2 H3 ⊢;have HV0:=Hi (show VBox (w.alloc (.cells #[.int .i64 0,.int .i64 0,.string ⟨#[]⟩] 26)) w.heap.size SC.zV from HZ.out.box)
  have hz1:(w.alloc (.cells #[.int .i64 0,.int .i64 0,.string ⟨#[]⟩] 26)).heap.size=w.heap.size+1:=by simp
  have HZ1:=Hi hz1;have HB0:=Hi HZ.out.below;have KP:=Hi (s9_of HX.out);clear hx hx1 hl hz1 HZ;go_enter Tryz.func107,Tryz.ntmps107;go_wp2_with fail;generalize hW1:(w.alloc (.cells #[.int .i64 0,.int .i64 0,.string ⟨#[]⟩] 26))=W1 at *;have BB:=Hi (Below.refl W1.heap.size W1);have SS:=Hi (KP.out W1 BB.out)
  go_upto_region 3 with fail
  go_cut [4,5] (fun s4 s5 wx=>∃ g',s4 = .pointer (some ⟨g',0,none⟩)∧s5 = .int .i64 e1∧W1.heap.size≤g'∧Hid (VBox wx g' ⟨pk,pi,ps⟩)∧Hid (Below W1.heap.size W1 wx))
  case first =>
   go_region_held3 (fun w'=>Below W1.heap.size W1 w'∧w'.cell? ⟨g,0,none⟩=some (.int .i64 a.k)∧w'.cell? ⟨g,1,none⟩=some (.int .i64 a.i)∧w'.cell? ⟨g,2,none⟩=some (.string a.s)∧w'.cell? ⟨g,3,none⟩=some (.int .i64 b.k)∧w'.cell? ⟨g,4,none⟩=some (.int .i64 b.i)∧w'.cell? ⟨g,5,none⟩=some (.string b.s)∧w'.cell? ⟨g,6,none⟩=some (.int .i64 c.k)∧w'.cell? ⟨g,7,none⟩=some (.int .i64 c.i)∧w'.cell? ⟨g,8,none⟩=some (.string c.s)∧True) ((refine KP.out _ ?_;(repeat(first | with_reducible exact BB.out | with_reducible refine bel_drewE ?_ | with_reducible refine bel_allocE ?_ _ | (with_reducible refine bel_setE ?_ ?_ _;focus(simp only[World.size_alloc,World.size_drew]at *;omega)))))) ((go_at_call 101;go_must (refine(H1.out _).mono ?_);rintro e w6 ⟨rfl,hb⟩;refine with_fct (bthen (w:=W1) ?_ hb) ?_;(focus(repeat(first | with_reducible exact BB.out | with_reducible refine bel_drewE ?_ | with_reducible refine bel_allocE ?_ _ | (with_reducible refine bel_setE ?_ ?_ _;focus(simp only[World.size_alloc,World.size_drew]at *;omega)))));intro b6;have BB:=Hi b6;(try((first | with_reducible refine with_fct ((vdrew raw0).later hb) ?_ | with_reducible refine with_fct (raw0.later hb) ?_);intro vt;obtain⟨x0,x1,x2⟩:=vt.cells;obtain⟨y0,y1,y2⟩:=vt.free;simp only[SC.zV]at x0 x1 x2))))
   all_goals (go_wp2_with fail;go_meet;first | exact⟨_,rfl,rfl,b6.size,vmade w6 pk pi ps,bel_allocE b6 _⟩ | exact⟨_,rfl,rfl,Nat.le_refl _,vset vt pk pi ps,SC.Below.set3 b6 (Nat.le_refl _) _ _ _⟩)
  case rest =>
   obtain⟨g1,rfl,rfl,hg1,hv1,hb1⟩:=hcut;obtain⟨wa,rfl⟩:∃ wa:World,wa=wc:=⟨_,rfl⟩;have Z1:=Hi (HV0.out.later hb1.out);have B1:=Hi (bthen HB0.out hb1.out);have V1:=Hi hv1.out;have G1:=Hi hg1
   by_cases he1:e1=0
   ·subst he1
    have KA:=Hi (s9_of (HX.out.later hb1.out));clear hg1 hv1 hb1 SS KP BB H1;have BB:=Hi (Below.refl wa.heap.size wa);have SS:=Hi (KA.out wa BB.out)
    go_upto_region 6 with fail
    go_cut [6,5] (fun s4 s5 wx=>∃ g',s4 = .pointer (some ⟨g',0,none⟩)∧s5 = .int .i64 e2∧wa.heap.size≤g'∧Hid (VBox wx g' ⟨qk,qi,qs⟩)∧Hid (Below wa.heap.size wa wx))
    case first =>
     go_region_held3 (fun w'=>Below wa.heap.size wa w'∧w'.cell? ⟨g,0,none⟩=some (.int .i64 a.k)∧w'.cell? ⟨g,1,none⟩=some (.int .i64 a.i)∧w'.cell? ⟨g,2,none⟩=some (.string a.s)∧w'.cell? ⟨g,3,none⟩=some (.int .i64 b.k)∧w'.cell? ⟨g,4,none⟩=some (.int .i64 b.i)∧w'.cell? ⟨g,5,none⟩=some (.string b.s)∧w'.cell? ⟨g,6,none⟩=some (.int .i64 c.k)∧w'.cell? ⟨g,7,none⟩=some (.int .i64 c.i)∧w'.cell? ⟨g,8,none⟩=some (.string c.s)∧True) ((refine KA.out _ ?_;(repeat(first | with_reducible exact BB.out | with_reducible refine bel_drewE ?_ | with_reducible refine bel_allocE ?_ _ | (with_reducible refine bel_setE ?_ ?_ _;focus(simp only[World.size_alloc,World.size_drew]at *;omega)))))) ((go_at_call 101;go_must (refine(H2.out _).mono ?_);rintro e w6 ⟨rfl,hb⟩;refine with_fct (bthen (w:=wa) ?_ hb) ?_;(focus(repeat(first | with_reducible exact BB.out | with_reducible refine bel_drewE ?_ | with_reducible refine bel_allocE ?_ _ | (with_reducible refine bel_setE ?_ ?_ _;focus(simp only[World.size_alloc,World.size_drew]at *;omega)))));intro b6;have BB:=Hi b6;(try((first | with_reducible refine with_fct ((vdrew raw0).later hb) ?_ | with_reducible refine with_fct (raw0.later hb) ?_);intro vt;obtain⟨x0,x1,x2⟩:=vt.cells;obtain⟨y0,y1,y2⟩:=vt.free;simp only[SC.zV]at x0 x1 x2))))
     all_goals (go_wp2_with fail;go_meet;first | exact⟨_,rfl,rfl,b6.size,vmade w6 qk qi qs,bel_allocE b6 _⟩ | exact⟨_,rfl,rfl,Nat.le_refl _,vset vt qk qi qs,SC.Below.set3 b6 (Nat.le_refl _) _ _ _⟩)
    case rest =>
     obtain⟨g2,rfl,rfl,hg2,hv2,hb2⟩:=hcut;obtain⟨wb,rfl⟩:∃ wb:World,wb=wc:=⟨_,rfl⟩;have Z2:=Hi (Z1.out.later hb2.out);have B2:=Hi (bthen B1.out hb2.out);have V2:=Hi hv2.out;have V1':=Hi (V1.out.later hb2.out);clear hg2 hv2 hb2 SS KA BB H2 V1 Z1
     by_cases he2:e2=0
     ·subst he2
      have H3':=Hi (H3.out wb.heap.size _ (SC.args2 (w:=wb) (a:=⟨pk,pi,ps⟩) (b:=⟨qk,qi,qs⟩) rfl));obtain⟨a0,a1,a2⟩:=V1'.out.cells;obtain⟨b0,b1,b2⟩:=V2.out.cells;simp only at a0 a1 a2 b0 b1 b2 H3' ⊢;go_wp2_with fail;refine(H3'.out).mono ?_;rintro e w7 ⟨rfl,hb7⟩;have b7:=bthen (bel_allocE (Below.refl wb.heap.size wb) _) hb7;have Z3:=Z2.out.later b7;have B3:=Hi (bthen B2.out b7);obtain⟨g0,g1,g2⟩:=Z3.cells;obtain⟨f0,f1,f2⟩:=Z3.free;simp only[SC.zV]at g0 g1 g2;clear hb7 b7 a0 a1 a2 b0 b1 b2 Z3;go_wp2_with fail;exact bodyPost_ret (v:= .tuple #[.agg #[.int .i64 uk,.int .i64 ui,.string us],.int .i64 er]) (by simp[results,Tryz.results107,go_sem,g0,g1,g2]) rfl ⟨by cases F3.out (by simp) (by simp);rfl,set3_new B3.out _ _ _⟩
     ·have hbe:(e2 != 0)=true:=by simpa using he2
      obtain⟨g0,g1,g2⟩:=Z2.out.cells;obtain⟨f0,f1,f2⟩:=Z2.out.free;simp only[SC.zV]at g0 g1 g2;go_wp2_with fail;exact bodyPost_ret (v:= .tuple #[.agg #[.int .i64 0,.int .i64 0,.string ⟨#[]⟩],.int .i64 e2]) (by simp[results,Tryz.results107,go_sem,g0,g1,g2]) rfl ⟨by cases F2.out (by simp) he2;rfl,by first | exact set3_new B2.out _ _ _ | exact B2.out⟩
   ·have hbe:(e1 != 0)=true:=by simpa using he1
    obtain⟨g0,g1,g2⟩:=Z1.out.cells;obtain⟨f0,f1,f2⟩:=Z1.out.free;simp only[SC.zV]at g0 g1 g2;clear hg1 hv1 hb1 SS KP BB H1;go_wp2_with fail;exact bodyPost_ret (v:= .tuple #[.agg #[.int .i64 0,.int .i64 0,.string ⟨#[]⟩],.int .i64 e1]) (by simp[results,Tryz.results107,go_sem,g0,g1,g2]) rfl ⟨by cases F1.out he1;rfl,by first | exact set3_new B1.out _ _ _ | exact B1.out⟩
 ·have hn:((xs.length:Int) != 3)=true:=by simp;omega
  have hno:three3 dBetween xs=(1,zW):=by
   unfold three3
   split
   ·simp at hl
   ·rfl
  rw[hno];have HRF:=Hi (fun w=>refuse_any (.slice (some ⟨g,0,none⟩) xs.length xs.length) w)
  unfold vA zW;generalize xs.length=n at *;clear hx hx1 hno hl;go_enter Tryz.func107,Tryz.ntmps107;go_wp2_with fail;refine(HRF.out _).mono ?_;rintro e w2 ⟨rfl,b2⟩;have P2:=Hi (HZ.out.call b2);obtain⟨g0,g1,g2⟩:=P2.out.box.cells;obtain⟨f0,f1,f2⟩:=P2.out.box.free;simp only[SC.zV]at g0 g1 g2;clear b2;go_wp2_with fail;exact bodyPost_ret (v:= .tuple #[.agg #[.int .i64 0,.int .i64 0,.string ⟨#[]⟩],.int .i64 1]) (by simp[results,Tryz.results107,go_sem,g0,g1,g2]) rfl ⟨rfl,set3_new P2.out.below _ _ _⟩
end Go.Proofs.YtcicpjgnpcnnmaaGreatDoor
