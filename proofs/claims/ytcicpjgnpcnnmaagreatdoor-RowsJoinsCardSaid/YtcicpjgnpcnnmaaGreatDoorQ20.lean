import Derived.Test.YtcicpjgnpcnnmaaGreatDoorQ18
import Derived.Test.YtcicpjgnpcnnmaaGreatDoorQ19
set_option maxRecDepth 100000
set_option maxHeartbeats 8000000
set_option linter.unusedSimpArgs false
set_option linter.unusedVariables false
namespace Go.Proofs.YtcicpjgnpcnnmaaGreatDoor
open Go.RowKit
open SC (HV VBox zero_box Args)
inductive DK (W:World) (o n:List UInt8) (v:BV.V) (A:Option Addr) (len c:Nat):Value→Prop
 | lit (g:Nat):o=wLit→VBox W g v→DK W o n v A len c (.func (.func 84) #[] #[.pointer (some ⟨g,0,none⟩)])
 | at (g h:Nat):o=wAt→RBox W g A len c→VBox W h v→DK W o n v A len c (.func (.func 85) #[] #[.pointer (some ⟨g,0,none⟩),.pointer (some ⟨h,0,none⟩)])
 | neg (g:Nat):o=wNeg→FnB W g (.func (.func 88) #[] #[]) 132→DK W o n v A len c (.func (.func 137) #[] #[.pointer (some ⟨g,0,none⟩)])
 | ar (g h:Nat):o∈arOps→FnB W g (.func (.func 90) #[] #[.pointer (some ⟨h,0,none⟩)]) 134→SBox W h (str o)→DK W o n v A len c (.func (.func 139) #[] #[.pointer (some ⟨g,0,none⟩)])
 | jo (g:Nat):o=wJoin→FnB W g (.func (.func 92) #[] #[]) 134→DK W o n v A len c (.func (.func 139) #[] #[.pointer (some ⟨g,0,none⟩)])
 | call (h:Nat):o=wCall→SBox W h (str n)→DK W o n v A len c (.func (.func 93) #[] #[.pointer (some ⟨h,0,none⟩)])
 | not (g:Nat):o=wNot→FnB W g (.func (.func 95) #[] #[]) 132→DK W o n v A len c (.func (.func 137) #[] #[.pointer (some ⟨g,0,none⟩)])
 | and:o=wAnd→DK W o n v A len c (.func (.func 96) #[] #[])
 | or:o=wOr→DK W o n v A len c (.func (.func 98) #[] #[])
 | rel (g h:Nat):o∈relOps→FnB W g (.func (.func 100) #[] #[.pointer (some ⟨h,0,none⟩)]) 134→SBox W h (str o)→DK W o n v A len c (.func (.func 139) #[] #[.pointer (some ⟨g,0,none⟩)])
 | isn (g:Nat):o=wIsnull→FnB W g (.func (.func 102) #[] #[]) 132→DK W o n v A len c (.func (.func 137) #[] #[.pointer (some ⟨g,0,none⟩)])
 | non (g:Nat):o=wNotnull→FnB W g (.func (.func 104) #[] #[]) 132→DK W o n v A len c (.func (.func 137) #[] #[.pointer (some ⟨g,0,none⟩)])
 | isin:o=wIn→DK W o n v A len c (.func (.func 105) #[] #[])
 | like (g:Nat):o=wLike→FnB W g (.func (.func 106) #[] #[]) 134→DK W o n v A len c (.func (.func 139) #[] #[.pointer (some ⟨g,0,none⟩)])
 | btw:o=wBetween→DK W o n v A len c (.func (.func 107) #[] #[])
 | none:o∉[wLit,wAt,wNeg]++arOps ++ [wJoin,wCall,wNot,wAnd,wOr]++relOps ++ [wIsnull,wNotnull,wIn,wLike,wBetween]→DK W o n v A len c (.func (.func 108) #[] #[])
theorem s7_of{w Wc:World}{bo vs bt bn:ByteArray}{vk vi:Int}{L:Value}(h:B7 Wc w.heap.size (.string bo) (.int .i64 vk) (.int .i64 vi) (.string vs) (.string bt) (.string bn) L)(w':World)(hb:Below Wc.heap.size Wc w'):(fun w'=>Below Wc.heap.size Wc w'∧w'.cell? ⟨w.heap.size,0,none⟩=some (.string bo)∧w'.cell? ⟨w.heap.size,1,none⟩=some (.int .i64 vk)∧w'.cell? ⟨w.heap.size,2,none⟩=some (.int .i64 vi)∧w'.cell? ⟨w.heap.size,3,none⟩=some (.string vs)∧w'.cell? ⟨w.heap.size,5,none⟩=some (.string bn)∧True) w':=by
 obtain⟨a0,a1,a2,a3,a4,a5,a6⟩:=(h.later hb).cells;exact⟨hb,a0,a1,a2,a3,a5,trivial⟩
theorem three_new(W:World)(c1 c2 c3:Array Value)(t1 t2 t3:TypeId):(((W.alloc (.cells c1 t1)).alloc (.cells c2 t2)).alloc (.cells c3 t3)).drew.heap[W.heap.size]? = some (.cells c1 t1 (0,0))∧(((W.alloc (.cells c1 t1)).alloc (.cells c2 t2)).alloc (.cells c3 t3)).drew.heap[W.heap.size+1]? = some (.cells c2 t2 (0,0))∧(((W.alloc (.cells c1 t1)).alloc (.cells c2 t2)).alloc (.cells c3 t3)).drew.heap[W.heap.size+1+1]? = some (.cells c3 t3 (0,0))∧Below W.heap.size W (((W.alloc (.cells c1 t1)).alloc (.cells c2 t2)).alloc (.cells c3 t3)).drew:=by
 have z1:(W.alloc (.cells c1 t1)).heap.size=W.heap.size+1:=by simp
 have z2:((W.alloc (.cells c1 t1)).alloc (.cells c2 t2)).heap.size=W.heap.size+1+1:=by simp
 have e1:=heap_alloc_new W (.cells c1 t1);have e2:=heap_alloc_new (W.alloc (.cells c1 t1)) (.cells c2 t2);have e3:=heap_alloc_new ((W.alloc (.cells c1 t1)).alloc (.cells c2 t2)) (.cells c3 t3);have b1:=(Below.refl _ (W.alloc (.cells c1 t1))).alloc (Nat.le_refl _) (.cells c2 t2);have b2:=(Below.refl _ ((W.alloc (.cells c1 t1)).alloc (.cells c2 t2))).alloc (Nat.le_refl _) (.cells c3 t3);rw[z1]at e2 b1;rw[z2]at e3 b2;refine⟨?_,?_,e3,bel_drewE (bel_allocE (bel_allocE (bel_allocE (Below.refl _ _) _) _) _)⟩
 ·exact((b2.block _ (by omega)).trans (b1.block _ (by omega))).trans e1
 ·exact(b2.block _ (by omega)).trans e2
theorem deedOf_any(o n t:List UInt8)(v:Vl)(L:Value)(A:Option Addr)(len c:Nat)(w:World) :
  Calls Tryz.prog 60 #[eVal o v t n L,.slice A len c] w fun e w'=>∃ fv,e = .returned fv∧DK w' o n (toV v) A len c fv∧Below w.heap.size w w':=by
 have q1:=B7.made w (.string (str o)) (.int .i64 v.k) (.int .i64 v.i) (.string (str v.s)) (.string (str t)) (.string (str n)) L;have hb1:=(Below.refl w.heap.size w).alloc (Nat.le_refl _) (.cells #[.string (str o),.int .i64 v.k,.int .i64 v.i,.string (str v.s),.string (str t),.string (str n),L] 29);have hmf:∀ (fn:Fn) (first cap:Array Value) (w:World),(Instr.makeFunc fn first cap).run Tryz.prog w = .ok (.func fn first cap) w:=fun _ _ _ _=>rfl
 unfold eVal toV;generalize hbo:str o=bo at *;generalize str t=bt at *;generalize hbn:str n=bn at *;generalize str v.s=vs at *;generalize v.k=vk at *;generalize v.i=vi at *;have HBO:=Hi hbo;have HBN:=Hi hbn;have q2:=q1.later ((Below.refl _ _).alloc (Nat.le_refl _) (.cells #[.slice A len c] 39));have r2:=heap_alloc_new (w.alloc (.cells #[.string bo,.int .i64 vk,.int .i64 vi,.string vs,.string bt,.string bn,L] 29)) (.cells #[.slice A len c] 39);have z2:(w.alloc (.cells #[.string bo,.int .i64 vk,.int .i64 vi,.string vs,.string bt,.string bn,L] 29)).heap.size=w.heap.size+1:=by simp
 rw[z2]at r2;have hb2:=bthen hb1 ((Below.refl _ _).alloc (Nat.le_refl _) (.cells #[.slice A len c] 39));have HQ:=Hi q2;have HR:Hid (RBox ((w.alloc (.cells #[.string bo,.int .i64 vk,.int .i64 vi,.string vs,.string bt,.string bn,L] 29)).alloc (.cells #[.slice A len c] 39)) (w.heap.size+1) A len c):=r2;have HB:=Hi hb2;clear hbo hbn q1 q2 r2 hb1 hb2 z2;go_enter Tryz.func60,Tryz.ntmps60;go_wp2_with fail;generalize hWc:((w.alloc (.cells #[.string bo,.int .i64 vk,.int .i64 vi,.string vs,.string bt,.string bn,L] 29)).alloc (.cells #[.slice A len c] 39))=Wc at *;have KP:=Hi (s7_of HQ.out);have BB:=Hi (Below.refl Wc.heap.size Wc);have SS:=Hi (KP.out Wc BB.out)
 go_upto_region 1 with fail
 go_cut [5,6,7] (fun s5 s6 s7 wx=>∃ g5 g6 g7,s5 = .pointer (some ⟨g5,0,none⟩)∧s6 = .pointer (some ⟨g6,0,none⟩)∧s7 = .pointer (some ⟨g7,0,none⟩)∧Hid (SBox wx g5 bo)∧Hid (VBox wx g6 ⟨vk,vi,vs⟩)∧Hid (SBox wx g7 bn)∧Hid (Below Wc.heap.size Wc wx))
 case first =>
  go_region_held3 (fun w'=>Below Wc.heap.size Wc w'∧w'.cell? ⟨w.heap.size,0,none⟩=some (.string bo)∧w'.cell? ⟨w.heap.size,1,none⟩=some (.int .i64 vk)∧w'.cell? ⟨w.heap.size,2,none⟩=some (.int .i64 vi)∧w'.cell? ⟨w.heap.size,3,none⟩=some (.string vs)∧w'.cell? ⟨w.heap.size,5,none⟩=some (.string bn)∧True) ((refine KP.out _ ?_;(repeat(first | with_reducible exact BB.out | with_reducible refine bel_drewE ?_ | with_reducible refine bel_allocE ?_ _ | (with_reducible refine bel_setE ?_ ?_ _;focus(simp only[World.size_alloc,World.size_drew]at *;omega)))))) (fail)
  all_goals (go_wp2_with fail;go_meet)
  all_goals refine⟨_,_,_,rfl,rfl,rfl,?_,?_,?_,(three_new Wc _ _ _ _ _ _).2.2.2⟩
  all_goals (first | exact(three_new Wc _ _ _ _ _ _).1 | exact(three_new Wc _ _ _ _ _ _).2.1 | exact(three_new Wc _ _ _ _ _ _).2.2.1)
 case rest =>
  obtain⟨g5,g6,g7,rfl,rfl,rfl,h5,h6,h7,hbx⟩:=hcut;obtain⟨wa,rfl⟩:∃ wa:World,wa=wc:=⟨_,rfl⟩;have HR2:=Hi (HR.out.later hbx.out);have HB2:=Hi (bthen HB.out hbx.out);have H5:=Hi h5.out;have H6:=Hi h6.out;have H7:=Hi h7.out;have c5:=h5.out.cell;clear hbx h5 h6 h7 SS KP BB HR HB HQ hWc
  by_cases h:o=wLit
  ·have e:bo=⟨#[108,105,116]⟩:=by rw[←HBO.out,h];rfl
   subst e;go_wp2_with fail
   go_ret
   exact⟨_,rfl,DK.lit g6 h H6.out,HB2.out⟩
  have m_0:(bo.toList == [108,105,116])=false:=by rw[←HBO.out,Lib.toList_data,str_list];exact beq_eq_false_iff_ne.2 h
  have HH0:=Hi h;have M0:=Hi m_0;clear h m_0
  by_cases h:o=wAt
  ·have e:bo=⟨#[97,116]⟩:=by rw[←HBO.out,h];rfl
   subst e;go_wp2_with fail
   go_ret
   exact⟨_,rfl,DK.at _ g6 h HR2.out H6.out,HB2.out⟩
  have m_1:(bo.toList == [97,116])=false:=by rw[←HBO.out,Lib.toList_data,str_list];exact beq_eq_false_iff_ne.2 h
  have HH1:=Hi h;have M1:=Hi m_1;clear h m_1
  by_cases h:o=wNeg
  ·have e:bo=⟨#[110,101,103]⟩:=by rw[←HBO.out,h];rfl
   subst e;go_wp2_with fail;refine(one_any 88 _).mono ?_;rintro e w1 ⟨rfl,hF,hb⟩;have HF:=Hi hF;have HB3:=Hi (bthen HB2.out hb)
   skip
   clear hF hb c5;go_wp2_with fail
   go_ret
   exact⟨_,rfl,DK.neg _ h HF.out,HB3.out⟩
  have m_2:(bo.toList == [110,101,103])=false:=by rw[←HBO.out,Lib.toList_data,str_list];exact beq_eq_false_iff_ne.2 h
  have HH2:=Hi h;have M2:=Hi m_2;clear h m_2
  by_cases h:o = [43]
  ·have e:bo=⟨#[43]⟩:=by rw[←HBO.out,h];rfl
   subst e;go_wp2_with fail;refine(two_any 90 #[.pointer (some ⟨g5,0,none⟩)] _).mono ?_;rintro e w1 ⟨rfl,hF,hb⟩;have HF:=Hi hF;have HB3:=Hi (bthen HB2.out hb);have H5':=Hi (H5.out.later hb);clear hF hb c5;go_wp2_with fail
   go_ret
   exact⟨_,rfl,DK.ar _ g5 (by rw[h];decide) HF.out (by rw[HBO.out];exact H5'.out),HB3.out⟩
  have m_3:(bo.toList == [43])=false:=by rw[←HBO.out,Lib.toList_data,str_list];exact beq_eq_false_iff_ne.2 h
  have HH3:=Hi h;have M3:=Hi m_3;clear h m_3
  by_cases h:o = [45]
  ·have e:bo=⟨#[45]⟩:=by rw[←HBO.out,h];rfl
   subst e;go_wp2_with fail;refine(two_any 90 #[.pointer (some ⟨g5,0,none⟩)] _).mono ?_;rintro e w1 ⟨rfl,hF,hb⟩;have HF:=Hi hF;have HB3:=Hi (bthen HB2.out hb);have H5':=Hi (H5.out.later hb);clear hF hb c5;go_wp2_with fail
   go_ret
   exact⟨_,rfl,DK.ar _ g5 (by rw[h];decide) HF.out (by rw[HBO.out];exact H5'.out),HB3.out⟩
  have m_4:(bo.toList == [45])=false:=by rw[←HBO.out,Lib.toList_data,str_list];exact beq_eq_false_iff_ne.2 h
  have HH4:=Hi h;have M4:=Hi m_4;clear h m_4
  by_cases h:o = [42]
  ·have e:bo=⟨#[42]⟩:=by rw[←HBO.out,h];rfl
   subst e;go_wp2_with fail;refine(two_any 90 #[.pointer (some ⟨g5,0,none⟩)] _).mono ?_;rintro e w1 ⟨rfl,hF,hb⟩;have HF:=Hi hF;have HB3:=Hi (bthen HB2.out hb);have H5':=Hi (H5.out.later hb);clear hF hb c5;go_wp2_with fail
   go_ret
   exact⟨_,rfl,DK.ar _ g5 (by rw[h];decide) HF.out (by rw[HBO.out];exact H5'.out),HB3.out⟩
  have m_5:(bo.toList == [42])=false:=by rw[←HBO.out,Lib.toList_data,str_list];exact beq_eq_false_iff_ne.2 h
  have HH5:=Hi h;have M5:=Hi m_5;clear h m_5
  by_cases h:o = [47]
  ·have e:bo=⟨#[47]⟩:=by rw[←HBO.out,h];rfl
   subst e;go_wp2_with fail;refine(two_any 90 #[.pointer (some ⟨g5,0,none⟩)] _).mono ?_;rintro e w1 ⟨rfl,hF,hb⟩;have HF:=Hi hF;have HB3:=Hi (bthen HB2.out hb);have H5':=Hi (H5.out.later hb);clear hF hb c5;go_wp2_with fail
   go_ret
   exact⟨_,rfl,DK.ar _ g5 (by rw[h];decide) HF.out (by rw[HBO.out];exact H5'.out),HB3.out⟩
  have m_6:(bo.toList == [47])=false:=by rw[←HBO.out,Lib.toList_data,str_list];exact beq_eq_false_iff_ne.2 h
  have HH6:=Hi h;have M6:=Hi m_6;clear h m_6
  by_cases h:o = [37]
  ·have e:bo=⟨#[37]⟩:=by rw[←HBO.out,h];rfl
   subst e;go_wp2_with fail;refine(two_any 90 #[.pointer (some ⟨g5,0,none⟩)] _).mono ?_;rintro e w1 ⟨rfl,hF,hb⟩;have HF:=Hi hF;have HB3:=Hi (bthen HB2.out hb);have H5':=Hi (H5.out.later hb);clear hF hb c5;go_wp2_with fail
   go_ret
   exact⟨_,rfl,DK.ar _ g5 (by rw[h];decide) HF.out (by rw[HBO.out];exact H5'.out),HB3.out⟩
  have m_7:(bo.toList == [37])=false:=by rw[←HBO.out,Lib.toList_data,str_list];exact beq_eq_false_iff_ne.2 h
  have HH7:=Hi h;have M7:=Hi m_7;clear h m_7
  by_cases h:o=wJoin
  ·have e:bo=⟨#[124,124]⟩:=by rw[←HBO.out,h];rfl
   subst e;go_wp2_with fail;refine(two_any 92 #[] _).mono ?_;rintro e w1 ⟨rfl,hF,hb⟩;have HF:=Hi hF;have HB3:=Hi (bthen HB2.out hb)
   skip
   clear hF hb c5;go_wp2_with fail
   go_ret
   exact⟨_,rfl,DK.jo _ h HF.out,HB3.out⟩
  have m_8:(bo.toList == [124,124])=false:=by rw[←HBO.out,Lib.toList_data,str_list];exact beq_eq_false_iff_ne.2 h
  have HH8:=Hi h;have M8:=Hi m_8;clear h m_8
  by_cases h:o=wCall
  ·have e:bo=⟨#[99,97,108,108]⟩:=by rw[←HBO.out,h];rfl
   subst e;go_wp2_with fail
   go_ret
   exact⟨_,rfl,DK.call g7 h (by rw[HBN.out];exact H7.out),HB2.out⟩
  have m_9:(bo.toList == [99,97,108,108])=false:=by rw[←HBO.out,Lib.toList_data,str_list];exact beq_eq_false_iff_ne.2 h
  have HH9:=Hi h;have M9:=Hi m_9;clear h m_9
  by_cases h:o=wNot
  ·have e:bo=⟨#[110,111,116]⟩:=by rw[←HBO.out,h];rfl
   subst e;go_wp2_with fail;refine(one_any 95 _).mono ?_;rintro e w1 ⟨rfl,hF,hb⟩;have HF:=Hi hF;have HB3:=Hi (bthen HB2.out hb)
   skip
   clear hF hb c5;go_wp2_with fail
   go_ret
   exact⟨_,rfl,DK.not _ h HF.out,HB3.out⟩
  have m_10:(bo.toList == [110,111,116])=false:=by rw[←HBO.out,Lib.toList_data,str_list];exact beq_eq_false_iff_ne.2 h
  have HH10:=Hi h;have M10:=Hi m_10;clear h m_10
  by_cases h:o=wAnd
  ·have e:bo=⟨#[97,110,100]⟩:=by rw[←HBO.out,h];rfl
   subst e;go_wp2_with fail
   go_ret
   exact⟨_,rfl,DK.and h,HB2.out⟩
  have m_11:(bo.toList == [97,110,100])=false:=by rw[←HBO.out,Lib.toList_data,str_list];exact beq_eq_false_iff_ne.2 h
  have HH11:=Hi h;have M11:=Hi m_11;clear h m_11
  by_cases h:o=wOr
  ·have e:bo=⟨#[111,114]⟩:=by rw[←HBO.out,h];rfl
   subst e;go_wp2_with fail
   go_ret
   exact⟨_,rfl,DK.or h,HB2.out⟩
  have m_12:(bo.toList == [111,114])=false:=by rw[←HBO.out,Lib.toList_data,str_list];exact beq_eq_false_iff_ne.2 h
  have HH12:=Hi h;have M12:=Hi m_12;clear h m_12
  by_cases h:o = [61]
  ·have e:bo=⟨#[61]⟩:=by rw[←HBO.out,h];rfl
   subst e;go_wp2_with fail;refine(two_any 100 #[.pointer (some ⟨g5,0,none⟩)] _).mono ?_;rintro e w1 ⟨rfl,hF,hb⟩;have HF:=Hi hF;have HB3:=Hi (bthen HB2.out hb);have H5':=Hi (H5.out.later hb);clear hF hb c5;go_wp2_with fail
   go_ret
   exact⟨_,rfl,DK.rel _ g5 (by rw[h];decide) HF.out (by rw[HBO.out];exact H5'.out),HB3.out⟩
  have m_13:(bo.toList == [61])=false:=by rw[←HBO.out,Lib.toList_data,str_list];exact beq_eq_false_iff_ne.2 h
  have HH13:=Hi h;have M13:=Hi m_13;clear h m_13
  by_cases h:o = [60,62]
  ·have e:bo=⟨#[60,62]⟩:=by rw[←HBO.out,h];rfl
   subst e;go_wp2_with fail;refine(two_any 100 #[.pointer (some ⟨g5,0,none⟩)] _).mono ?_;rintro e w1 ⟨rfl,hF,hb⟩;have HF:=Hi hF;have HB3:=Hi (bthen HB2.out hb);have H5':=Hi (H5.out.later hb);clear hF hb c5;go_wp2_with fail
   go_ret
   exact⟨_,rfl,DK.rel _ g5 (by rw[h];decide) HF.out (by rw[HBO.out];exact H5'.out),HB3.out⟩
  have m_14:(bo.toList == [60,62])=false:=by rw[←HBO.out,Lib.toList_data,str_list];exact beq_eq_false_iff_ne.2 h
  have HH14:=Hi h;have M14:=Hi m_14;clear h m_14
  by_cases h:o = [60]
  ·have e:bo=⟨#[60]⟩:=by rw[←HBO.out,h];rfl
   subst e;go_wp2_with fail;refine(two_any 100 #[.pointer (some ⟨g5,0,none⟩)] _).mono ?_;rintro e w1 ⟨rfl,hF,hb⟩;have HF:=Hi hF;have HB3:=Hi (bthen HB2.out hb);have H5':=Hi (H5.out.later hb);clear hF hb c5;go_wp2_with fail
   go_ret
   exact⟨_,rfl,DK.rel _ g5 (by rw[h];decide) HF.out (by rw[HBO.out];exact H5'.out),HB3.out⟩
  have m_15:(bo.toList == [60])=false:=by rw[←HBO.out,Lib.toList_data,str_list];exact beq_eq_false_iff_ne.2 h
  have HH15:=Hi h;have M15:=Hi m_15;clear h m_15
  by_cases h:o = [60,61]
  ·have e:bo=⟨#[60,61]⟩:=by rw[←HBO.out,h];rfl
   subst e;go_wp2_with fail;refine(two_any 100 #[.pointer (some ⟨g5,0,none⟩)] _).mono ?_;rintro e w1 ⟨rfl,hF,hb⟩;have HF:=Hi hF;have HB3:=Hi (bthen HB2.out hb);have H5':=Hi (H5.out.later hb);clear hF hb c5;go_wp2_with fail
   go_ret
   exact⟨_,rfl,DK.rel _ g5 (by rw[h];decide) HF.out (by rw[HBO.out];exact H5'.out),HB3.out⟩
  have m_16:(bo.toList == [60,61])=false:=by rw[←HBO.out,Lib.toList_data,str_list];exact beq_eq_false_iff_ne.2 h
  have HH16:=Hi h;have M16:=Hi m_16;clear h m_16
  by_cases h:o = [62]
  ·have e:bo=⟨#[62]⟩:=by rw[←HBO.out,h];rfl
   subst e;go_wp2_with fail;refine(two_any 100 #[.pointer (some ⟨g5,0,none⟩)] _).mono ?_;rintro e w1 ⟨rfl,hF,hb⟩;have HF:=Hi hF;have HB3:=Hi (bthen HB2.out hb);have H5':=Hi (H5.out.later hb);clear hF hb c5;go_wp2_with fail
   go_ret
   exact⟨_,rfl,DK.rel _ g5 (by rw[h];decide) HF.out (by rw[HBO.out];exact H5'.out),HB3.out⟩
  have m_17:(bo.toList == [62])=false:=by rw[←HBO.out,Lib.toList_data,str_list];exact beq_eq_false_iff_ne.2 h
  have HH17:=Hi h;have M17:=Hi m_17;clear h m_17
  by_cases h:o = [62,61]
  ·have e:bo=⟨#[62,61]⟩:=by rw[←HBO.out,h];rfl
   subst e;go_wp2_with fail;refine(two_any 100 #[.pointer (some ⟨g5,0,none⟩)] _).mono ?_;rintro e w1 ⟨rfl,hF,hb⟩;have HF:=Hi hF;have HB3:=Hi (bthen HB2.out hb);have H5':=Hi (H5.out.later hb);clear hF hb c5;go_wp2_with fail
   go_ret
   exact⟨_,rfl,DK.rel _ g5 (by rw[h];decide) HF.out (by rw[HBO.out];exact H5'.out),HB3.out⟩
  have m_18:(bo.toList == [62,61])=false:=by rw[←HBO.out,Lib.toList_data,str_list];exact beq_eq_false_iff_ne.2 h
  have HH18:=Hi h;have M18:=Hi m_18;clear h m_18
  by_cases h:o=wIsnull
  ·have e:bo=⟨#[105,115,110,117,108,108]⟩:=by rw[←HBO.out,h];rfl
   subst e;go_wp2_with fail;refine(one_any 102 _).mono ?_;rintro e w1 ⟨rfl,hF,hb⟩;have HF:=Hi hF;have HB3:=Hi (bthen HB2.out hb)
   skip
   clear hF hb c5;go_wp2_with fail
   go_ret
   exact⟨_,rfl,DK.isn _ h HF.out,HB3.out⟩
  have m_19:(bo.toList == [105,115,110,117,108,108])=false:=by rw[←HBO.out,Lib.toList_data,str_list];exact beq_eq_false_iff_ne.2 h
  have HH19:=Hi h;have M19:=Hi m_19;clear h m_19
  by_cases h:o=wNotnull
  ·have e:bo=⟨#[110,111,116,110,117,108,108]⟩:=by rw[←HBO.out,h];rfl
   subst e;go_wp2_with fail;refine(one_any 104 _).mono ?_;rintro e w1 ⟨rfl,hF,hb⟩;have HF:=Hi hF;have HB3:=Hi (bthen HB2.out hb)
   skip
   clear hF hb c5;go_wp2_with fail
   go_ret
   exact⟨_,rfl,DK.non _ h HF.out,HB3.out⟩
  have m_20:(bo.toList == [110,111,116,110,117,108,108])=false:=by rw[←HBO.out,Lib.toList_data,str_list];exact beq_eq_false_iff_ne.2 h
  have HH20:=Hi h;have M20:=Hi m_20;clear h m_20
  by_cases h:o=wIn
  ·have e:bo=⟨#[105,110]⟩:=by rw[←HBO.out,h];rfl
   subst e;go_wp2_with fail
   go_ret
   exact⟨_,rfl,DK.isin h,HB2.out⟩
  have m_21:(bo.toList == [105,110])=false:=by rw[←HBO.out,Lib.toList_data,str_list];exact beq_eq_false_iff_ne.2 h
  have HH21:=Hi h;have M21:=Hi m_21;clear h m_21
  by_cases h:o=wLike
  ·have e:bo=⟨#[108,105,107,101]⟩:=by rw[←HBO.out,h];rfl
   subst e;go_wp2_with fail;refine(two_any 106 #[] _).mono ?_;rintro e w1 ⟨rfl,hF,hb⟩;have HF:=Hi hF;have HB3:=Hi (bthen HB2.out hb)
   skip
   clear hF hb c5;go_wp2_with fail
   go_ret
   exact⟨_,rfl,DK.like _ h HF.out,HB3.out⟩
  have m_22:(bo.toList == [108,105,107,101])=false:=by rw[←HBO.out,Lib.toList_data,str_list];exact beq_eq_false_iff_ne.2 h
  have HH22:=Hi h;have M22:=Hi m_22;clear h m_22
  by_cases h:o=wBetween
  ·have e:bo=⟨#[98,101,116,119,101,101,110]⟩:=by rw[←HBO.out,h];rfl
   subst e;go_wp2_with fail
   go_ret
   exact⟨_,rfl,DK.btw h,HB2.out⟩
  have m_23:(bo.toList == [98,101,116,119,101,101,110])=false:=by rw[←HBO.out,Lib.toList_data,str_list];exact beq_eq_false_iff_ne.2 h
  have HH23:=Hi h;have M23:=Hi m_23;clear h m_23;have m_0:=M0.out;have m_1:=M1.out;have m_2:=M2.out;have m_3:=M3.out;have m_4:=M4.out;have m_5:=M5.out;have m_6:=M6.out;have m_7:=M7.out;have m_8:=M8.out;have m_9:=M9.out;have m_10:=M10.out;have m_11:=M11.out;have m_12:=M12.out;have m_13:=M13.out;have m_14:=M14.out;have m_15:=M15.out;have m_16:=M16.out;have m_17:=M17.out;have m_18:=M18.out;have m_19:=M19.out;have m_20:=M20.out;have m_21:=M21.out;have m_22:=M22.out;have m_23:=M23.out;go_wp2_with fail
  go_ret
  refine⟨_,rfl,DK.none ?_,HB2.out⟩;intro hm;simp only[arOps,relOps,List.mem_append,List.mem_cons,List.not_mem_nil,or_false,List.cons_append,List.nil_append]at hm;rcases hm with h | h | h | h | h | h | h | h | h | h | h | h | h | h | h | h | h | h | h | h | h | h | h | h
  ·exact HH0.out h
  ·exact HH1.out h
  ·exact HH2.out h
  ·exact HH3.out h
  ·exact HH4.out h
  ·exact HH5.out h
  ·exact HH6.out h
  ·exact HH7.out h
  ·exact HH8.out h
  ·exact HH9.out h
  ·exact HH10.out h
  ·exact HH11.out h
  ·exact HH12.out h
  ·exact HH13.out h
  ·exact HH14.out h
  ·exact HH15.out h
  ·exact HH16.out h
  ·exact HH17.out h
  ·exact HH18.out h
  ·exact HH19.out h
  ·exact HH20.out h
  ·exact HH21.out h
  ·exact HH22.out h
  ·exact HH23.out h
theorem args_tail{w:World}{g:Nat}{a:BV.V}{l:List BV.V}(h:Args w g (a::l)):BV.RowAt w w.heap.size (some ⟨g,3,none⟩) l:=fun h0=>by
 refine⟨g,3,rfl,h.lt,fun j hj => ?_⟩
 have e:∀ t,t < 3→w.cell? ⟨g,3+j*3+t,none⟩=(BV.c3 l[j])[t]? := fun t ht=>by
  have h1:=h.cell (3+j*3+t);rw[h1];have h2:=BV.flat_get (a::l) (j+1) t (by simpa using hj) ht
  rw[show(j+1)*3+t=3+j*3+t by omega]at h2
  rw[h2]
  rfl
 exact⟨e 0 (by omega),e 1 (by omega),e 2 (by omega)⟩
theorem dvIn(g:Nat)(xs:List BV.V)(w:World)(hx:Args w g xs)(hm:xs.length≤2000) :
  Calls Tryz.prog 105 #[.slice (some ⟨g,0,none⟩) xs.length xs.length] w fun e w'=>e = .returned (vA (dIn xs))∧Below w.heap.size w w':=by
 have HZ:=Hi (zero_box w);have hx1:=hx.later HZ.out.below;cases xs with
 | nil =>
  have HRF:=Hi (fun w=>refuse_any (.slice (some ⟨g,0,none⟩) 0 0) w)
  show Calls Tryz.prog 105 #[.slice (some ⟨g,0,none⟩) 0 0] w fun e w'=>e = .returned (.tuple #[.agg #[.int .i64 0,.int .i64 0,.string ⟨#[]⟩],.int .i64 1])∧_
  clear hx hx1 hm;go_enter Tryz.func105,Tryz.ntmps105;go_wp2_with fail;refine(HRF.out _).mono ?_;rintro e w2 ⟨rfl,b2⟩;have P2:=Hi (HZ.out.call b2);obtain⟨g0,g1,g2⟩:=P2.out.box.cells;obtain⟨f0,f1,f2⟩:=P2.out.box.free;simp only[SC.zV]at g0 g1 g2;clear b2;go_wp2_with fail;exact bodyPost_ret (v:= .tuple #[.agg #[.int .i64 0,.int .i64 0,.string ⟨#[]⟩],.int .i64 1]) (by simp[results,Tryz.results105,go_sem,g0,g1,g2]) rfl ⟨rfl,set3_new P2.out.below _ _ _⟩
 | cons a l =>
  have HA:Hid (∀ A c,(0 < l.length→A=some ⟨g,3,none⟩)→Calls Tryz.prog 149 #[vV a,.slice A l.length c] (w.alloc (.cells #[.int .i64 0,.int .i64 0,.string ⟨#[]⟩] 26)).drew fun e w'=>e = .returned (vA (dIn (a::l)))∧Below (w.alloc (.cells #[.int .i64 0,.int .i64 0,.string ⟨#[]⟩] 26)).drew.heap.size (w.alloc (.cells #[.int .i64 0,.int .i64 0,.string ⟨#[]⟩] 26)).drew w') :=
   fun A c hA=>LG.in_any a l A c _ (fun h0=>by rw[hA h0];exact args_tail hx1 h0) (by simp at hm;omega)
  have hlen:(a::l).length=l.length+1:=rfl;rw[hlen];have HX:=Hi hx1;generalize dIn (a::l)=an at *;obtain⟨er,uk,ui,us⟩:=an;unfold vA vV at *;simp only at *;generalize hN:l.length+1=N at *;have hn:l.length=N - 1:=by omega
  rw[hn]at HA;have hn1:((N:Int) == 0)=false:=by simp;omega
  have hn2:(1:Int)≤(N:Int):=by omega
  clear hx hx1 hm hlen hn hN
  by_cases hN1:N=1
  ·subst hN1
   have HA0:=Hi (HA.out (some ⟨g,0,none⟩) 0 (by simp))
   go_enter Tryz.func105,Tryz.ntmps105;go_wp2_with fail;generalize hW1:(w.alloc (.cells #[.int .i64 0,.int .i64 0,.string ⟨#[]⟩] 26))=W1 at *;have a0:W1.cell? ⟨g,0,none⟩=some (.int .i64 a.k):=HX.out.cell 0;have a1:W1.cell? ⟨g,1,none⟩=some (.int .i64 a.i):=HX.out.cell 1;have a2:W1.cell? ⟨g,2,none⟩=some (.string a.s):=HX.out.cell 2
   go_region_with (go_at_call 149;go_must (refine(HA0.out).mono ?_);rintro e w2 ⟨rfl,b2⟩;have P2:=Hi (HZ.out.drew.call b2);obtain⟨g0,g1,g2⟩:=P2.out.box.cells;obtain⟨f0,f1,f2⟩:=P2.out.box.free;simp only[SC.zV]at g0 g1 g2)
   all_goals
    go_wp2_with fail;exact bodyPost_ret (v:= .tuple #[.agg #[.int .i64 uk,.int .i64 ui,.string us],.int .i64 er]) (by simp[results,Tryz.results105,go_sem,g0,g1,g2]) rfl ⟨rfl,set3_new P2.out.below _ _ _⟩
  ·have HA0:=Hi (HA.out (some ⟨g,3,none⟩) (N - 1) (fun _=>rfl))
   go_enter Tryz.func105,Tryz.ntmps105;go_wp2_with fail;generalize hW1:(w.alloc (.cells #[.int .i64 0,.int .i64 0,.string ⟨#[]⟩] 26))=W1 at *;have a0:W1.cell? ⟨g,0,none⟩=some (.int .i64 a.k):=HX.out.cell 0;have a1:W1.cell? ⟨g,1,none⟩=some (.int .i64 a.i):=HX.out.cell 1;have a2:W1.cell? ⟨g,2,none⟩=some (.string a.s):=HX.out.cell 2
   go_region_with (go_at_call 149;go_must (refine(HA0.out).mono ?_);rintro e w2 ⟨rfl,b2⟩;have P2:=Hi (HZ.out.drew.call b2);obtain⟨g0,g1,g2⟩:=P2.out.box.cells;obtain⟨f0,f1,f2⟩:=P2.out.box.free;simp only[SC.zV]at g0 g1 g2)
   all_goals
    go_wp2_with fail;exact bodyPost_ret (v:= .tuple #[.agg #[.int .i64 uk,.int .i64 ui,.string us],.int .i64 er]) (by simp[results,Tryz.results105,go_sem,g0,g1,g2]) rfl ⟨rfl,set3_new P2.out.below _ _ _⟩
theorem like_ok(s p:ByteArray)(w:World)(hs:s.size≤100000000)(hp:p.size≤100000000) :
  (LK.rd p.data.toList=none∧Calls Tryz.prog 150 #[.string s,.string p] w fun e w'=>e = .returned (.tuple #[.bool false,.int .i64 40])∧Below w.heap.size w w') ∨
  (∃ us,LK.rd p.data.toList=some us∧Calls Tryz.prog 150 #[.string s,.string p] w fun e w'=>e = .returned (.tuple #[.bool (LK.M us s.data.toList),.int .i64 0])∧Below w.heap.size w w'):=by
 cases h:LK.rd p.data.toList with
 | none=>exact .inl ⟨rfl,LK.like_none s p w hp h⟩
 | some us=>exact .inr ⟨us,rfl,LK.like_some s p us w hs hp h⟩
theorem dvLike(a b:BV.V)(w:World)(ha:a.s.size≤100000000)(hb:b.s.size≤100000000) :
  Calls Tryz.prog 106 #[vV a,vV b] w fun e w'=>e = .returned (vA (dLike a b))∧Below w.heap.size w w':=by
 have HZ:=Hi (SC.three_boxes w a b);obtain⟨a0,a1,a2⟩:=HZ.out.tail.tail.box.cells;obtain⟨b0,b1,b2⟩:=HZ.out.tail.box.cells;have HL:=Hi (fun w=>like_ok a.s b.s w ha hb)
 obtain⟨z0,z1,z2⟩:=HZ.out.box.cells;simp only[SC.zV]at z0 z1 z2;have hz:Below w.heap.size w (((w.alloc (.cells #[.int .i64 a.k,.int .i64 a.i,.string a.s] 26)).alloc (.cells #[.int .i64 b.k,.int .i64 b.i,.string b.s] 26)).alloc (.cells #[.int .i64 0,.int .i64 0,.string ⟨#[]⟩] 26)):=HZ.out.below
 by_cases h1:a.k=0∨b.k=0
 ·have hd:dLike a b=(0,zW):=by unfold dLike;rw[if_pos h1]
  rw[hd];unfold vA vV zW;have h1':(a.k == 0)=true∨((a.k == 0)=false∧(b.k == 0)=true):=by rcases h1 with h | h <;> by_cases h':a.k=0 <;> simp_all
  clear HL hd h1;rcases h1' with h1 | ⟨h1,h2⟩
  all_goals
   go_enter Tryz.func106,Tryz.ntmps106;go_wp2_with fail;exact bodyPost_ret (v:= .tuple #[.agg #[.int .i64 0,.int .i64 0,.string ⟨#[]⟩],.int .i64 0]) (by simp[results,Tryz.results106,go_sem,z0,z1,z2]) rfl ⟨rfl,hz⟩
 ·by_cases h2:a.k≠3∨b.k≠3
  ·have hd:dLike a b=(20,zW):=by unfold dLike;rw[if_neg h1,if_pos h2]
   rw[hd];unfold vA vV zW;have h3:(a.k == 0)=false:=by simp at h1 ⊢;exact h1.1
   have h4:(b.k == 0)=false:=by simp at h1 ⊢;exact h1.2
   have h1':(a.k != 3)=true∨((a.k != 3)=false∧(b.k != 3)=true):=by rcases h2 with h | h <;> by_cases h':a.k=3 <;> simp_all
   clear HL hd h1 h2;rcases h1' with h1 | ⟨h1,h2⟩
   all_goals
    go_enter Tryz.func106,Tryz.ntmps106;go_wp2_with fail;exact bodyPost_ret (v:= .tuple #[.agg #[.int .i64 0,.int .i64 0,.string ⟨#[]⟩],.int .i64 20]) (by simp[results,Tryz.results106,go_sem,z0,z1,z2]) rfl ⟨rfl,by first | exact hz | exact HZ.out.below⟩
  ·have h3:a.k=3:=by simp at h2;exact h2.1
   have h4:b.k=3:=by simp at h2;exact h2.2
   obtain⟨ak,ai,as'⟩:=a;obtain⟨bk,bi,bs⟩:=b;simp only at *;subst h3 h4;have hd:dLike ⟨3,ai,as'⟩ ⟨3,bi,bs⟩=match LK.rd bs.data.toList with | none=>(40,zW) | some us=>(0,tru (LK.M us as'.data.toList)):=by unfold dLike;rw[if_neg (by simp),if_neg (by simp)];rfl
   rw[hd];have HT:=Hi (fun q W=>truth_any q W)
   rcases HL.out w with ⟨hr,-⟩ | ⟨us,hr,-⟩
   ·rw[hr]
    simp only;unfold vA vV zW
    have HC:Hid (∀ w,Calls Tryz.prog 150 #[.string as',.string bs] w fun e w'=>e = .returned (.tuple #[.bool false,.int .i64 40])∧Below w.heap.size w w'):=fun w=>by
     rcases HL.out w with ⟨-,h⟩ | ⟨us,h,-⟩
     ·exact h
     ·rw[hr]at h;cases h
    simp only;clear HL hd h1 h2 hr hz;go_enter Tryz.func106,Tryz.ntmps106;go_wp2_with fail;refine(HC.out _).mono ?_;rintro e w2 ⟨rfl,b2⟩;have P2:=Hi (HZ.out.call b2);obtain⟨g0,g1,g2⟩:=P2.out.box.cells;obtain⟨f0,f1,f2⟩:=P2.out.box.free;simp only[SC.zV]at g0 g1 g2;clear b2 a0 a1 a2 b0 b1 z0 z1 z2;go_wp2_with fail;exact bodyPost_ret (v:= .tuple #[.agg #[.int .i64 0,.int .i64 0,.string ⟨#[]⟩],.int .i64 40]) (by simp[results,Tryz.results106,go_sem,g0,g1,g2]) rfl ⟨rfl,set3_at P2.out.below (by omega) _ _ _⟩
   ·rw[hr]
    simp only;unfold vA vV tru
    have HC:Hid (∀ w,Calls Tryz.prog 150 #[.string as',.string bs] w fun e w'=>e = .returned (.tuple #[.bool (LK.M us as'.data.toList),.int .i64 0])∧Below w.heap.size w w'):=fun w=>by
     rcases HL.out w with ⟨h,-⟩ | ⟨us',h,h'⟩
     ·rw[hr]at h;cases h
     ·rw[hr]at h;cases h;exact h'
    simp only;have HT':=Hi (HT.out (LK.M us as'.data.toList));generalize LK.M us as'.data.toList=q at *;generalize (if q=true then (1:Int)else 0)=ti at *
    clear HL hd h1 h2 hr hz HT;go_enter Tryz.func106,Tryz.ntmps106;go_wp2_with fail;refine(HC.out _).mono ?_;rintro e w2 ⟨rfl,b2⟩;have P2:=Hi (HZ.out.call b2);clear b2 a0 a1 a2 b0 b1 z0 z1 z2;go_wp2_with fail;refine(HT'.out _).mono ?_;rintro e w3 ⟨rfl,b3⟩;have P3:=Hi (P2.out.call b3);obtain⟨g0,g1,g2⟩:=P3.out.box.cells;obtain⟨f0,f1,f2⟩:=P3.out.box.free;simp only[SC.zV]at g0 g1 g2;clear b3;go_wp2_with fail;exact bodyPost_ret (v:= .tuple #[.agg #[.int .i64 1,.int .i64 ti,.string ⟨#[]⟩],.int .i64 0]) (by simp[results,Tryz.results106,go_sem,g0,g1,g2]) rfl ⟨rfl,set3_at P3.out.below (by omega) _ _ _⟩
theorem firstV_at{l:List BV.V}(k:Nat)(hk:k < l.length)(h0:∀ j (hj:j < l.length),j < k→l[j].k=0)(h:¬l[k].k=0):firstV l=l[k]:=by
 induction l generalizing k with
 | nil=>simp at hk
 | cons a l ih =>
  cases k with
  | zero=>simp only[List.getElem_cons_zero]at h ⊢;rw[firstV,if_neg h]
  | succ k =>
   have ha:a.k=0:=h0 0 (by simp) (by omega)
   simp only[List.getElem_cons_succ]at h ⊢;rw[firstV,if_pos ha];exact ih k (by simpa using hk) (fun j hj hlt=>h0 (j+1) (by simpa using hj) (by omega)) h
theorem firstV_none{l:List BV.V}(h0:∀ j (hj:j < l.length),l[j].k=0):firstV l=zW:=by
 induction l with
 | nil=>rfl
 | cons a l ih =>
  have ha:a.k=0:=h0 0 (by simp)
  rw[firstV,if_pos ha];exact ih fun j hj=>h0 (j+1) (by simpa using hj)
theorem args_at{w:World}{H:Nat}{xs:List BV.V}(h:Args w H xs)(k:Nat)(hk:k < xs.length):w.cell? ⟨H,k*3,none⟩=some (.int .i64 xs[k].k)∧w.cell? ⟨H,k*3+1,none⟩=some (.int .i64 xs[k].i)∧w.cell? ⟨H,k*3+2,none⟩=some (.string xs[k].s):=by
 have e:∀ t,t < 3→w.cell? ⟨H,k*3+t,none⟩=(BV.c3 xs[k])[t]? := fun t ht=>(h.cell (k*3+t)).trans (BV.flat_get xs k t hk ht)
 exact⟨e 0 (by omega),e 1 (by omega),e 2 (by omega)⟩
theorem doCoalesce(xs:List BV.V)(H:Nat)(w:World)(h:Args w H xs)(hm:xs.length≤100000) :
  Calls Tryz.prog 190 #[.slice (some ⟨H,0,none⟩) xs.length xs.length] w fun e w'=>e = .returned (vA (0,firstV xs))∧Below w.heap.size w w':=by
 have HZ:=Hi (zero_box w);have HA:=Hi (h.later HZ.out.below);clear h;unfold vA;go_enter Tryz.func190,Tryz.ntmps190;go_wp2_with fail;generalize w.alloc (.cells #[.int .i64 0,.int .i64 0,.string ⟨#[]⟩] 26)=W1 at *
 go_loopw [8] (fun iv wr=>∃ k:Nat,k≤xs.length∧iv = .int .i64 k∧Hid (∀ j (hj:j < xs.length),j < k→xs[j].k=0)∧Hid (HV w [(w.heap.size,SC.zV)] wr)∧Hid (Args wr H xs)) (fun iv _=>xs.length - (intOf iv).toNat)
 case atStart=>exact⟨0,Nat.zero_le _,rfl,fun j hj h=>by omega,HZ.out,HA.out⟩
 case round =>
  obtain⟨k,hk,rfl,HK,HR,HG⟩:=hrel
  by_cases hlt:k < xs.length
  ·have hkz:(k:Int) < (xs.length:Int):=by omega
   obtain⟨c0,c1,c2⟩:=args_at HG.out k hlt;have HT:=Hi (fun(h:¬xs[k].k=0)=>firstV_at k hlt HK.out h)
   have HN:Hid (xs[k].k=0→∀ j (hj:j < xs.length),j < k+1→xs[j].k=0):=fun h j hj hlt'=>by
    rcases Nat.lt_or_ge j k with h' | h'
    ·exact HK.out j hj h'
    ·obtain rfl:j=k:=by omega
     exact h
   generalize xs[k]=u at *;obtain⟨uk,ui,us⟩:=u;simp only at c0 c1 c2 HT HN
   by_cases h0:uk=0
   ·subst h0
    have HN':=Hi (HN.out rfl);clear HT HN;go_wp2_with fail
    go_roundw
    case measure=>simp[intOf];omega
    case rel=>exact⟨k+1,by omega,by go_num,HN',HR.out.alloc _,HG.out.later ((Below.refl _ wr).alloc (Nat.le_refl _) _)⟩
   ·have h1:(uk != 0)=true:=by simpa using h0
    have HT':=Hi (HT.out h0);have H1:=Hi (HR.out.alloc (.cells #[.int .i64 uk,.int .i64 ui,.string us] 26));obtain⟨g0,g1,g2⟩:=H1.out.box.cells;obtain⟨f0,f1,f2⟩:=H1.out.box.free;simp only[SC.zV]at g0 g1 g2;clear HT HN h0;go_wp2_with fail;exact bodyPost_ret (v:= .tuple #[.agg #[.int .i64 uk,.int .i64 ui,.string us],.int .i64 0]) (by simp[results,Tryz.results190,go_sem,g0,g1,g2]) rfl ⟨by rw[HT'.out],set3_new H1.out.below _ _ _⟩
  ·have hke:k=xs.length:=by omega
   have hkz:¬(k:Int) < (xs.length:Int):=by omega
   have HT:Hid (firstV xs=zW):=firstV_none fun j hj=>HK.out j hj (by omega)
   obtain⟨g0,g1,g2⟩:=HR.out.box.cells;obtain⟨f0,f1,f2⟩:=HR.out.box.free;simp only[SC.zV]at g0 g1 g2;clear hke HK;go_wp2_with fail;exact bodyPost_ret (v:= .tuple #[.agg #[.int .i64 0,.int .i64 0,.string ⟨#[]⟩],.int .i64 0]) (by simp[results,Tryz.results190,go_sem,g0,g1,g2]) rfl ⟨by rw[HT.out];rfl,by first | exact set3_new HR.out.below _ _ _ | exact HR.out.below⟩
theorem doNullif(a b:BV.V)(H:Nat)(w:World)(h:Args w H [a,b]):Calls Tryz.prog 191 #[.slice (some ⟨H,0,none⟩) 2 2] w fun e w'=>e = .returned (vA (dNullif a b))∧Below w.heap.size w w':=by
 have hl:=h.lt;have HZ:=Hi (zero_box w);have HS:=Hi (fun w=>BV.same_any a.k a.i b.k b.i a.s b.s w)
 have h1:=h.later ((Below.refl _ w).alloc (Nat.le_refl _) (.cells #[.int .i64 0,.int .i64 0,.string ⟨#[]⟩] 26));have HA:=Hi h1;unfold dNullif vA;generalize hq:BV.sameB a.k a.i a.s b.k b.i b.s=q at *;clear h h1 hq;go_enter Tryz.func191,Tryz.ntmps191;go_wp2_with fail;generalize w.alloc (.cells #[.int .i64 0,.int .i64 0,.string ⟨#[]⟩] 26)=W1 at *;have c0:W1.cell? ⟨H,0,none⟩=some (.int .i64 a.k):=HA.out.cell 0;have c1:W1.cell? ⟨H,1,none⟩=some (.int .i64 a.i):=HA.out.cell 1;have c2:W1.cell? ⟨H,2,none⟩=some (.string a.s):=HA.out.cell 2;have c3:W1.cell? ⟨H,3,none⟩=some (.int .i64 b.k):=HA.out.cell 3;have c4:W1.cell? ⟨H,4,none⟩=some (.int .i64 b.i):=HA.out.cell 4;have c5:W1.cell? ⟨H,5,none⟩=some (.string b.s):=HA.out.cell 5
 go_still_tail 6,(by kernel_rfl)
 change wpList _ _ _ _ _ W1.drew
 go_wp2_with fail;refine(HS.out _).mono ?_;rintro e w1 ⟨rfl,hb⟩;have H1:=Hi (HZ.out.drew.call hb);have HA1:=HA.out.later (bthen ((Below.refl W1.heap.size W1).drew) hb);obtain⟨g0,g1,g2⟩:=H1.out.box.cells;obtain⟨f0,f1,f2⟩:=H1.out.box.free;simp only[SC.zV]at g0 g1 g2;clear c0 c1 c2 c3 c4 c5;have c0:w1.cell? ⟨H,0,none⟩=some (.int .i64 a.k):=HA1.cell 0;have c1:w1.cell? ⟨H,1,none⟩=some (.int .i64 a.i):=HA1.cell 1;have c2:w1.cell? ⟨H,2,none⟩=some (.string a.s):=HA1.cell 2;clear HA1;cases q
 ·go_wp2_with fail
  exact bodyPost_ret (v:= .tuple #[.agg #[.int .i64 a.k,.int .i64 a.i,.string a.s],.int .i64 0]) (by simp[results,Tryz.results191,go_sem,g0,g1,g2]) rfl ⟨by simp,set3_new H1.out.below _ _ _⟩
 ·go_wp2_with fail
  exact bodyPost_ret (v:= .tuple #[.agg #[.int .i64 0,.int .i64 0,.string ⟨#[]⟩],.int .i64 0]) (by simp[results,Tryz.results191,go_sem,g0,g1,g2]) rfl ⟨by simp[zW],by first | exact set3_new H1.out.below _ _ _ | exact H1.out.below⟩
theorem doAbs(a:BV.V)(H:Nat)(w:World)(h:Args w H [a])(hi:I64 a):Calls Tryz.prog 192 #[.slice (some ⟨H,0,none⟩) 1 1] w fun e w'=>e = .returned (vA (dAbs a))∧Below w.heap.size w w':=by
 have HZ:=Hi (zero_box w);have h1:=h.later ((Below.refl _ w).alloc (Nat.le_refl _) (.cells #[.int .i64 0,.int .i64 0,.string ⟨#[]⟩] 26));have HS:=Hi (fun w=>SC.neg_any a w hi)
 have HA:=Hi h1;have c0:=h1.cell 0;have c1:=h1.cell 1;have c2:=h1.cell 2
 change _=some (Value.int .i64 a.k)at c0
 change _=some (Value.int .i64 a.i)at c1
 change _=some (Value.string a.s)at c2
 unfold dAbs;clear h h1
 by_cases h0:a.i < 0
 ·rw[if_pos h0]
  have HS':Hid (∀ w,Calls Tryz.prog 88 #[.agg #[.int .i64 a.k,.int .i64 a.i,.string a.s]] w fun e w'=>e = .returned (vA (dNeg a))∧Below w.heap.size w w'):=HS
  unfold vA at *;generalize dNeg a=an at *;obtain⟨er,uk,ui,us⟩:=an;simp only at HS' ⊢;clear HS hi;go_enter Tryz.func192,Tryz.ntmps192;go_wp2_with fail;refine(HS'.out _).mono ?_;rintro e w1 ⟨rfl,hb⟩;have H1:=Hi (HZ.out.call hb);obtain⟨g0,g1,g2⟩:=H1.out.box.cells;obtain⟨f0,f1,f2⟩:=H1.out.box.free;simp only[SC.zV]at g0 g1 g2;clear c0 c1 c2;go_wp2_with fail;exact bodyPost_ret (v:= .tuple #[.agg #[.int .i64 uk,.int .i64 ui,.string us],.int .i64 er]) (by simp[results,Tryz.results192,go_sem,g0,g1,g2]) rfl ⟨rfl,set3_new H1.out.below _ _ _⟩
 ·rw[if_neg h0]
  unfold vA;clear HS hi;go_enter Tryz.func192,Tryz.ntmps192;go_wp2_with fail;exact bodyPost_ret (v:= .tuple #[.agg #[.int .i64 a.k,.int .i64 a.i,.string a.s],.int .i64 0]) (by simp[results,Tryz.results192,go_sem]) rfl ⟨rfl,(Below.refl w.heap.size w).alloc (Nat.le_refl _) _⟩
theorem doSign(a:BV.V)(H:Nat)(w:World)(h:Args w H [a]):Calls Tryz.prog 193 #[.slice (some ⟨H,0,none⟩) 1 1] w fun e w'=>e = .returned (vA (dSign a))∧Below w.heap.size w w':=by
 have HZ:=Hi (zero_box w);have h1:=h.later ((Below.refl _ w).alloc (Nat.le_refl _) (.cells #[.int .i64 0,.int .i64 0,.string ⟨#[]⟩] 26));have HS:=Hi (fun w=>BV.cmp64_any a.i 0 w)
 have HN:=Hi (fun n w=>SC.number_any n w)
 have c1:=h1.cell 1
 change _=some (Value.int .i64 a.i)at c1
 unfold dSign nuV vA;generalize BV.cmpI a.i 0=q at *;clear h h1;go_enter Tryz.func193,Tryz.ntmps193;go_wp2_with fail;refine(HS.out _).mono ?_;rintro e w1 ⟨rfl,rfl⟩;clear c1;go_wp2_with fail;refine(HN.out _ _).mono ?_;rintro e w2 ⟨rfl,hb⟩;have H1:=Hi (HZ.out.call hb);obtain⟨g0,g1,g2⟩:=H1.out.box.cells;obtain⟨f0,f1,f2⟩:=H1.out.box.free;simp only[SC.zV]at g0 g1 g2;go_wp2_with fail;exact bodyPost_ret (v:= .tuple #[.agg #[.int .i64 2,.int .i64 q,.string ⟨#[]⟩],.int .i64 0]) (by simp[results,Tryz.results193,go_sem,g0,g1,g2]) rfl ⟨rfl,set3_new H1.out.below _ _ _⟩
theorem doSubstrNeg(a b c:BV.V)(H:Nat)(w:World)(h:Args w H [a,b,c])(hc:c.i < 0):Calls Tryz.prog 198 #[.slice (some ⟨H,0,none⟩) 3 3] w fun e w'=>e = .returned (vA (1,zW))∧Below w.heap.size w w':=by
 have h1:=h.later ((Below.refl _ w).alloc (Nat.le_refl _) (.cells #[.int .i64 0,.int .i64 0,.string ⟨#[]⟩] 26));have c7:=h1.cell 7
 change _=some (Value.int .i64 c.i)at c7
 unfold vA zW;clear h h1;go_enter Tryz.func198,Tryz.ntmps198;go_wp2_with fail;exact bodyPost_ret (v:= .tuple #[.agg #[.int .i64 0,.int .i64 0,.string ⟨#[]⟩],.int .i64 1]) (by simp[results,Tryz.results198,go_sem]) rfl ⟨rfl,(Below.refl w.heap.size w).alloc (Nat.le_refl _) _⟩
theorem wrap_in{n:Int}(h : -9223372036854775808≤n∧n≤9223372036854775807):IntKind.i64.wrap n=n:=IntWalk.i64_in _ (by omega)
theorem text_out(s:ByteArray)(w:World):Calls Tryz.prog 209 #[.string s] w fun e w'=>e = .returned (.agg #[.int .i64 3,.int .i64 0,.string s])∧Below w.heap.size w w':=SC.text_any s w
theorem doReplace(a b c:BV.V)(H:Nat)(w:World)(h:Args w H [a,b,c])(hE:SC.Env w)(ha:a.s.size≤100000000)(hb:b.s.size≤100000000)(hc:c.s.size≤100000000) :
  Calls Tryz.prog 200 #[.slice (some ⟨H,0,none⟩) 3 3] w fun e w'=>e = .returned (vA (dReplace a b c))∧Below w.heap.size w w':=by
 have hl:=h.lt;have HZ:=Hi (zero_box w);have h1:=h.later ((Below.refl _ w).alloc (Nat.le_refl _) (.cells #[.int .i64 0,.int .i64 0,.string ⟨#[]⟩] 26));have HA:=Hi h1;have HE:=Hi (hE.later HZ.out.below);clear h h1 hE;unfold dReplace
 by_cases h0:b.s=⟨#[]⟩
 ·rw[if_pos h0]
  unfold vA;have c5':=HA.out.cell 5
  change _=some (Value.string b.s)at c5'
  rw[h0]at c5';have C5:=Hi c5';clear c5';go_enter Tryz.func200,Tryz.ntmps200;go_wp2_with fail;generalize w.alloc (.cells #[.int .i64 0,.int .i64 0,.string ⟨#[]⟩] 26)=W1 at *;have c0:W1.cell? ⟨H,0,none⟩=some (.int .i64 a.k):=HA.out.cell 0;have c1:W1.cell? ⟨H,1,none⟩=some (.int .i64 a.i):=HA.out.cell 1;have c2:W1.cell? ⟨H,2,none⟩=some (.string a.s):=HA.out.cell 2;have c5:W1.cell? ⟨H,5,none⟩=some (.string ⟨#[]⟩):=C5.out;have c8:W1.cell? ⟨H,8,none⟩=some (.string c.s):=HA.out.cell 8;obtain⟨g0,g1,g2⟩:=HZ.out.box.cells;obtain⟨f0,f1,f2⟩:=HZ.out.box.free;simp only[SC.zV]at g0 g1 g2
  go_quiet (fail)
  go_wp2_with fail;exact bodyPost_ret (v:= .tuple #[.agg #[.int .i64 a.k,.int .i64 a.i,.string a.s],.int .i64 0]) (by simp[results,Tryz.results200,go_sem,g0,g1,g2]) rfl ⟨rfl,set3_new (SC.below_drewN HZ.out.below _) _ _ _⟩
 ·rw[if_neg h0]
  have hsz:b.s.size≠0:=fun h=>h0 (SC.empty_of h)
  have hE1:b.s.toList = []→False:=by
   intro h;rw[Lib.toList_data]at h;have:=congrArg List.length h
   simp at this
   exact hsz (by simp[this])
  have m1:(b.s.toList == [])=false:=by simpa using hE1
  have m2:b.s.toList.isEmpty=false:=by
   cases hq:b.s.toList
   ·exact absurd hq hE1
   ·rfl
  have HC:Hid (∀ w m,w.cell? ⟨0,0,none⟩=some (.int .i64 m)→Calls Tryz.prog 214 #[.string a.s,.string b.s] w fun e w'=>e = .returned (.int .i64 (Lib.countB a.s b.s))∧w'=w):=fun w m hm=>Tryz.strings_Count_any a.s b.s m w (by omega) hm (by omega)
  have hcm:=Lib.countB_mul_le b.s (by omega) a.s.size a.s (Nat.le_refl _)
  have hcb:Lib.countB a.s b.s≤100000000:=by
   have:Lib.countB a.s b.s*1≤Lib.countB a.s b.s*b.s.size:=Nat.mul_le_mul_left _ (by omega)
   omega
  have hN:replN a b c=(a.s.size:Int)+(Lib.countB a.s b.s:Int)*((c.s.size:Int) - b.s.size):=rfl
  have HRp:Hid (¬100000 < replN a b c→∀ w m,w.cell? ⟨0,0,none⟩=some (.int .i64 m)→Calls Tryz.prog 215 #[.string a.s,.string b.s,.string c.s] w fun e w'=>e = .returned (.string ⟨(Lib.replaceAll a.s.data.toList b.s.data.toList c.s.data.toList).toArray⟩)∧Below w.heap.size w w'):=by
   intro hn w m hm;refine Tryz.strings_ReplaceAll a.s b.s c.s m w (by omega) hm (by omega) ?_
   rw[hN,Int.mul_sub]at hn;have e1:((Lib.countB a.s b.s*c.s.size:Nat):Int)=(Lib.countB a.s b.s:Int)*c.s.size:=by push_cast;rfl
   have e2:((Lib.countB a.s b.s*b.s.size:Nat):Int)=(Lib.countB a.s b.s:Int)*b.s.size:=by push_cast;rfl
   omega
  have hp1:(Lib.countB a.s b.s:Int)*((c.s.size:Int) - b.s.size)≤10000000000000000:=by
   have h1:(Lib.countB a.s b.s:Int)*((c.s.size:Int) - b.s.size)≤(Lib.countB a.s b.s:Int)*100000000:=Int.mul_le_mul_of_nonneg_left (by omega) (by omega)
   omega
  have hp2 : -10000000000000000≤(Lib.countB a.s b.s:Int)*((c.s.size:Int) - b.s.size):=by
   have h1:(Lib.countB a.s b.s:Int)*(-100000000)≤(Lib.countB a.s b.s:Int)*((c.s.size:Int) - b.s.size):=Int.mul_le_mul_of_nonneg_left (by omega) (by omega)
   omega
  have w1:IntKind.i64.wrap ((c.s.size:Int) - b.s.size)=(c.s.size:Int) - b.s.size:=wrap_in (by omega)
  have w2:IntKind.i64.wrap ((Lib.countB a.s b.s:Int)*((c.s.size:Int) - b.s.size))=(Lib.countB a.s b.s:Int)*((c.s.size:Int) - b.s.size):=wrap_in (by omega)
  have w3:IntKind.i64.wrap ((a.s.size:Int)+(Lib.countB a.s b.s:Int)*((c.s.size:Int) - b.s.size))=(a.s.size:Int)+(Lib.countB a.s b.s:Int)*((c.s.size:Int) - b.s.size):=wrap_in (by omega)
  rw[hN]at HRp ⊢;have F1:=Hi (fun(h:100000 < (a.s.size:Int)+(Lib.countB a.s b.s:Int)*((c.s.size:Int) - b.s.size))=>(if_pos h:(if 100000 < (a.s.size:Int)+(Lib.countB a.s b.s:Int)*((c.s.size:Int) - b.s.size)then ((30,zW):Ans)else (0,txtV ⟨(Lib.replaceAll a.s.data.toList b.s.data.toList c.s.data.toList).toArray⟩))=_))
  have F2:=Hi (fun(h:¬100000 < (a.s.size:Int)+(Lib.countB a.s b.s:Int)*((c.s.size:Int) - b.s.size))=>(if_neg h:(if 100000 < (a.s.size:Int)+(Lib.countB a.s b.s:Int)*((c.s.size:Int) - b.s.size)then ((30,zW):Ans)else (0,txtV ⟨(Lib.replaceAll a.s.data.toList b.s.data.toList c.s.data.toList).toArray⟩))=_))
  unfold zW txtV at F1 F2;generalize hfin:(if 100000 < (a.s.size:Int)+(Lib.countB a.s b.s:Int)*((c.s.size:Int) - b.s.size)then ((30,zW):Ans)else (0,txtV ⟨(Lib.replaceAll a.s.data.toList b.s.data.toList c.s.data.toList).toArray⟩))=fin
  have F1':Hid (100000 < (a.s.size:Int)+(Lib.countB a.s b.s:Int)*((c.s.size:Int) - b.s.size)→fin=(30,⟨0,0,⟨#[]⟩⟩)):=fun h=>hfin.symm.trans (F1.out h)
  have F2':Hid (¬100000 < (a.s.size:Int)+(Lib.countB a.s b.s:Int)*((c.s.size:Int) - b.s.size)→fin=(0,⟨3,0,⟨(Lib.replaceAll a.s.data.toList b.s.data.toList c.s.data.toList).toArray⟩⟩)):=fun h=>hfin.symm.trans (F2.out h)
  obtain⟨fe,fk,fi,fs⟩:=fin;unfold vA;clear hcm hE1 hN F1 F2 hfin h0 hsz hp1 hp2 hcb;generalize (⟨(Lib.replaceAll a.s.data.toList b.s.data.toList c.s.data.toList).toArray⟩:ByteArray)=rs at *;generalize Lib.countB a.s b.s=cnt at *;generalize hq:(a.s.size:Int)+(cnt:Int)*((c.s.size:Int) - b.s.size)=q at *
  by_cases hbig:100000 < q
  ·have F:=Hi (F1'.out hbig)
   clear F1' F2' HRp;go_enter Tryz.func200,Tryz.ntmps200;go_wp2_with fail;generalize w.alloc (.cells #[.int .i64 0,.int .i64 0,.string ⟨#[]⟩] 26)=W1 at *;have c2:W1.cell? ⟨H,2,none⟩=some (.string a.s):=HA.out.cell 2;have c5:W1.cell? ⟨H,5,none⟩=some (.string b.s):=HA.out.cell 5;have c8:W1.cell? ⟨H,8,none⟩=some (.string c.s):=HA.out.cell 8;obtain⟨m,hm⟩:=HE.out.max;have HM:=Hi hm;obtain⟨g0,g1,g2⟩:=HZ.out.box.cells;obtain⟨f0,f1,f2⟩:=HZ.out.box.free;simp only[SC.zV]at g0 g1 g2;clear hm
   go_quiet (fail)
   go_wp2_with fail;refine(HC.out (W1.drewN _) m HM.out).mono ?_;rintro e w4 ⟨rfl,rfl⟩;clear c2 c5 c8;go_wp2_with fail;exact bodyPost_ret (v:= .tuple #[.agg #[.int .i64 0,.int .i64 0,.string ⟨#[]⟩],.int .i64 30]) (by simp[results,Tryz.results200,go_sem,g0,g1,g2]) rfl ⟨by cases F.out;rfl,by first | exact set3_new (SC.below_drewN HZ.out.below _) _ _ _ | exact SC.below_drewN HZ.out.below _⟩
  ·have F:=Hi (F2'.out hbig)
   have HR:=Hi (HRp.out hbig);clear F1' F2' HRp;go_enter Tryz.func200,Tryz.ntmps200;go_wp2_with fail;generalize w.alloc (.cells #[.int .i64 0,.int .i64 0,.string ⟨#[]⟩] 26)=W1 at *;have c2:W1.cell? ⟨H,2,none⟩=some (.string a.s):=HA.out.cell 2;have c5:W1.cell? ⟨H,5,none⟩=some (.string b.s):=HA.out.cell 5;have c8:W1.cell? ⟨H,8,none⟩=some (.string c.s):=HA.out.cell 8;obtain⟨m,hm⟩:=HE.out.max;have HM:=Hi hm;clear hm
   go_quiet (fail)
   go_wp2_with fail;refine(HC.out (W1.drewN _) m HM.out).mono ?_;rintro e w4 ⟨rfl,rfl⟩;clear c2 c5 c8;go_wp2_with fail;refine(HR.out (W1.drewN _) m HM.out).mono ?_;rintro e w5 ⟨rfl,b5⟩;have P5:=Hi ((HZ.out.drewN _).call b5);go_wp2_with fail;refine(text_out _ _).mono ?_;rintro e w6 ⟨rfl,b6⟩;have P6:=Hi (P5.out.call b6);obtain⟨g0,g1,g2⟩:=P6.out.box.cells;obtain⟨f0,f1,f2⟩:=P6.out.box.free;simp only[SC.zV]at g0 g1 g2;go_wp2_with fail;exact bodyPost_ret (v:= .tuple #[.agg #[.int .i64 3,.int .i64 0,.string rs],.int .i64 0]) (by simp[results,Tryz.results200,go_sem,g0,g1,g2]) rfl ⟨by cases F.out;rfl,set3_new P6.out.below _ _ _⟩
end Go.Proofs.YtcicpjgnpcnnmaaGreatDoor
