import Derived.Test.YtcicpjgnpcnnmaaGreatDoorQ23
import Derived.Test.YtcicpjgnpcnnmaaGreatDoorQ25
set_option maxRecDepth 100000
set_option maxHeartbeats 4000000
set_option linter.unusedSimpArgs false
set_option linter.unusedVariables false
namespace Go.Proofs.YtcicpjgnpcnnmaaGreatDoor
open Go.RowKit
def Nam(W:Int)(w:World)(e:E)(q:Ending)(w':World):Prop:=Below w.heap.size w w'∧((e.nok W=true∧∃ A c,q = .returned (.tuple #[eVal e.nmd.op e.nmd.v e.nmd.tb e.nmd.nm (.slice A e.nmd.l.length c),.bool true])∧Sub (fun b=>w.heap.size≤b) w' e.nmd A c)∨(e.nok W=false∧∃ s0 i1 i2 s3 s4 s5 A n c,q = .returned (.tuple #[.agg #[.string s0,.int .i64 i1,.int .i64 i2,.string s3,.string s4,.string s5,.slice A n c],.bool false])))
theorem in_agg(n:List UInt8):decide (n∈[wCount,wSum,wMin,wMax])=aggB n:=by
 unfold aggB
 by_cases h1:n=wCount
 ·simp[h1]
 by_cases h2:n=wSum
 ·simp[h2]
 by_cases h3:n=wMin
 ·simp[h3]
 by_cases h4:n=wMax
 ·simp[h4]
 simp[h1,h2,h3,h4]
theorem nam_no{W:Int}{w w':World}{e:E}(h:e.nok W=false)(s0 s3 s4 s5:ByteArray)(i1 i2:Int)(A:Option Addr)(n c:Nat)(hb:Below w.heap.size w w'):Nam W w e (.returned (.tuple #[.agg #[.string s0,.int .i64 i1,.int .i64 i2,.string s3,.string s4,.string s5,.slice A n c],.bool false])) w':=⟨hb,.inr ⟨h,_,_,_,_,_,_,_,_,_,rfl⟩⟩
theorem nam_at{W:Int}{w w':World}{e:E}{b:Bool}(h:e.nok W=b)(hn:e.nmd=colA)(hb:Below w.heap.size w w'):Nam W w e (.returned (.tuple #[.agg #[.string ⟨#[99,111,108]⟩,.int .i64 0,.int .i64 0,.string ⟨#[]⟩,.string ⟨#[]⟩,.string ⟨#[97]⟩,.slice none 0 0],.bool b])) w':=by
 refine⟨hb,?_⟩;cases b
 ·exact .inr ⟨h,_,_,_,_,_,_,_,_,_,rfl⟩
 ·refine .inl ⟨h,?_⟩
  rw[hn];exact⟨none,0,rfl,⟨Nat.zero_le _,by unfold maxLen;omega,fun h=>by simp[colA,col]at h⟩⟩
theorem ownL_nilE(w:World)(B:Nat)(S:Nat→Prop):OwnL w B S [] false (.slice none 0 0):=⟨[],World.ownsRow_nil w B 29 7,fun r hr=>by simp at hr,rfl,fun _=>rfl⟩
theorem app_nmd{w2 wr w3 w4 W5:World}{xs:List E}{u:Value}{e:E}{A:Option Addr}{c:Nat}(h0:0 < w2.heap.size)(hb:Below w2.heap.size w2 wr)(h3:Below wr.heap.size wr w3)(h4:Below w3.heap.size w3 w4)(h5:Below w4.heap.size w4 W5)(HO:OwnL wr w2.heap.size (fun k=>w2.heap.size≤k) xs false u)(hs:Sub (fun k=>w3.heap.size≤k) w4 e A c)(hm:xs.length≤1000000) :
  ∃ v' w',(Builtin.append_ #[27,27] 27 #[u,.slice (some ⟨W5.heap.size,0,none⟩) 1 1]).run Tryz.prog (W5.alloc (.cells #[.string (str e.op),.int .i64 e.v.k,.int .i64 e.v.i,.string (str e.v.s),.string (str e.tb),.string (str e.nm),.slice A e.l.length c] 29)) = .ok v' w'∧Hid (OwnL w' w2.heap.size (fun k=>w2.heap.size≤k) (xs ++ [e]) false v')∧Hid (Below w2.heap.size w2 w'):=by
 have b35:=bthen h3 (bthen h4 h5)
 have hown:∀ k,u.ownBlock=some k→w2.heap.size≤k∧k < wr.heap.size:=fun k hk=>by
  obtain⟨rs,h1,-⟩:=HO;exact h1.lt k hk
 have z1:=hb.size;have z2:=h3.size;have z3:=h4.size;have z4:=h5.size;have HO5:=HO.keep (S':=fun k=>w2.heap.size≤k) (fun k hk hlt=>⟨hk,b35.block k hlt⟩) (.inr ⟨0,h0,.of b35 (Nat.le_refl _)⟩) h0
 have hs5:Sub (fun k=>w2.heap.size≤k∧u.ownBlock≠some k) W5 e A c:=hs.keep (fun k hk hlt=>⟨⟨by omega,fun he=>by have:=hown k he;omega⟩,h5.block k hlt⟩) h5.size
 have hbt:But w2.heap.size w2 W5:= .of (bthen hb b35) (Nat.le_refl _);obtain⟨v6,w6,r6,ho6,hb6,hk6,hz6⟩:=ownL_app HO5 (e,A,c) (e:=e) hs5 (fun _=>rfl) hm (by omega) w2.heap.size hbt (Nat.le_refl _) W5.heap.size rfl
 exact⟨v6,w6,r6,Hi ho6,Hi ⟨hb6.os,hb6.tape,hb6.output,hb6.size,fun k hk=>hb6.block k hk (by omega)⟩⟩
theorem nam_yes{W:Int}{w w':World}{e f:E}{A:Option Addr}{c:Nat}(h:e.nok W=true)(hn:e.nmd=f)(hs:Sub (fun b=>w.heap.size≤b) w' f A c)(hb:Below w.heap.size w w'):Nam W w e (.returned (.tuple #[eVal f.op f.v f.tb f.nm (.slice A f.l.length c),.bool true])) w':=⟨hb,.inl ⟨h,A,c,by rw[hn],by rw[hn];exact hs⟩⟩
theorem set6{w:World}{b:Nat}{c0 c1 c2 c3 c4 c5 c6:Value}(h:B7 w b c0 c1 c2 c3 c4 c5 c6)(u:Value):B7 (w.setCell ⟨b,6,none⟩ u) b c0 c1 c2 c3 c4 c5 u:=by
 have h6:=heap_set_same u (o:=6) h;unfold B7
 simpa only[List.setIfInBounds_toArray,List.set_cons_zero,List.set_cons_succ]using h6
theorem named_at(W:Int)(v:Vl)(t n:List UInt8)(l:List E)(A:Option Addr)(c:Nat)(w:World):Calls Tryz.prog 57 #[eVal wAt v t n (.slice A l.length c),.int .i64 W] w (Nam W w (.mk wAt v t n l)):=by
 have hnok:(E.mk wAt v t n l).nok W=placeB W v t n l:=by rw[E.nok,if_neg (by rintro(h | h | ⟨h,-⟩) <;> exact absurd h (by decide)),if_pos rfl]
 have hnm:(E.mk wAt v t n l).nmd=colA:=by rw[E.nmd,if_pos rfl]
 obtain⟨vk,vi,vs⟩:=v
 show Calls Tryz.prog 57 #[.agg #[.string ⟨#[97,116]⟩,.int .i64 vk,.int .i64 vi,.string (str vs),.string (str t),.string (str n),.slice A l.length c],.int .i64 W] w _
 by_cases c1:vk=2
 ·subst c1
  by_cases c2:vs = []
  ·subst c2
   by_cases c5:t = []
   ·subst c5
    by_cases c6:n = []
    ·subst c6
     by_cases c7:l = []
     ·subst c7
      show Calls Tryz.prog 57 #[.agg #[.string ⟨#[97,116]⟩,.int .i64 2,.int .i64 vi,.string ⟨#[]⟩,.string ⟨#[]⟩,.string ⟨#[]⟩,.slice A 0 c],.int .i64 W] w _
      by_cases c3:0≤vi
      ·by_cases c4:vi < W
       ·have hpl:=(show placeB W ⟨2,vi,[]⟩ [] [] []=true by simp[placeB,c3,c4])
        have HPL:=Hi (hnok.trans hpl);clear hpl hnok;obtain⟨W1,hW1,q1,z1,r1⟩:=box7 w (.string ⟨#[97,116]⟩) (.int .i64 2) (.int .i64 vi) (.string ⟨#[]⟩) (.string ⟨#[]⟩) (.string ⟨#[]⟩) (.slice A 0 c);obtain⟨W2,hW2,q2,z2,r2⟩:=zero7 W1;have HQ2:=Hi q2;have HB:=Hi (bthen r1 r2);have HW1:=Hi hW1;have HW2:=Hi hW2;obtain⟨x0,x1,x2,x3,x4,x5,x6⟩:=(q1.later r2).cells;have HZ:=Hi z1;clear hW1 hW2 q1 q2 r1 r2 z1 z2;go_enter Tryz.func57,Tryz.ntmps57
        go_wp2_with (first | (rw[←HW2.out]) | (rw[←HW1.out]))
        refine(rCol ⟨#[]⟩ ⟨#[97]⟩ W2).mono ?_;rintro e w3 ⟨rfl,b3⟩;obtain⟨y0,y1,y2,y3,y4,y5,y6⟩:=(HQ2.out.later b3).cells;obtain⟨f0,f1,f2,f3,f4,f5,f6⟩:=(HQ2.out.later b3).free;have HB3:=Hi (bthen HB.out b3);go_wp2_with fail;obtain⟨Wf,hWf,qf,zf,kf,bf⟩:=stored7 (HQ2.out.later b3) (.string ⟨#[99,111,108]⟩) (.int .i64 0) (.int .i64 0) (.string ⟨#[]⟩) (.string ⟨#[]⟩) (.string ⟨#[97]⟩) (.slice none 0 0);rw[←hWf];obtain⟨a0,a1,a2,a3,a4,a5,a6⟩:=qf.cells;exact bodyPost_ret (v:= .tuple #[.agg #[.string ⟨#[99,111,108]⟩,.int .i64 0,.int .i64 0,.string ⟨#[]⟩,.string ⟨#[]⟩,.string ⟨#[97]⟩,.slice none 0 0],.bool true]) (by(simp[results,Tryz.results57,go_sem,a0,a1,a2,a3,a4,a5,a6]) <;> assumption) rfl (nam_at HPL.out hnm (HB3.out.trans (bf _ (by have:=HZ.out;omega))))
        
       ·have hpl:=(show placeB W ⟨2,vi,[]⟩ [] [] []=false by simp[placeB,c4])
        have HPL:=Hi (hnok.trans hpl);clear hpl hnok;obtain⟨W1,hW1,q1,z1,r1⟩:=box7 w (.string ⟨#[97,116]⟩) (.int .i64 2) (.int .i64 vi) (.string ⟨#[]⟩) (.string ⟨#[]⟩) (.string ⟨#[]⟩) (.slice A 0 c);obtain⟨W2,hW2,q2,z2,r2⟩:=zero7 W1;have HQ2:=Hi q2;have HB:=Hi (bthen r1 r2);have HW1:=Hi hW1;have HW2:=Hi hW2;obtain⟨x0,x1,x2,x3,x4,x5,x6⟩:=(q1.later r2).cells;have HZ:=Hi z1;clear hW1 hW2 q1 q2 r1 r2 z1 z2;go_enter Tryz.func57,Tryz.ntmps57
        go_wp2_with (first | (rw[←HW2.out]) | (rw[←HW1.out]))
        refine(rCol ⟨#[]⟩ ⟨#[97]⟩ W2).mono ?_;rintro e w3 ⟨rfl,b3⟩;obtain⟨y0,y1,y2,y3,y4,y5,y6⟩:=(HQ2.out.later b3).cells;obtain⟨f0,f1,f2,f3,f4,f5,f6⟩:=(HQ2.out.later b3).free;have HB3:=Hi (bthen HB.out b3);go_wp2_with fail;obtain⟨Wf,hWf,qf,zf,kf,bf⟩:=stored7 (HQ2.out.later b3) (.string ⟨#[99,111,108]⟩) (.int .i64 0) (.int .i64 0) (.string ⟨#[]⟩) (.string ⟨#[]⟩) (.string ⟨#[97]⟩) (.slice none 0 0);rw[←hWf];obtain⟨a0,a1,a2,a3,a4,a5,a6⟩:=qf.cells;exact bodyPost_ret (v:= .tuple #[.agg #[.string ⟨#[99,111,108]⟩,.int .i64 0,.int .i64 0,.string ⟨#[]⟩,.string ⟨#[]⟩,.string ⟨#[97]⟩,.slice none 0 0],.bool false]) (by(simp[results,Tryz.results57,go_sem,a0,a1,a2,a3,a4,a5,a6]) <;> assumption) rfl (nam_at HPL.out hnm (HB3.out.trans (bf _ (by have:=HZ.out;omega))))
        
      ·have hpl:=(show placeB W ⟨2,vi,[]⟩ [] [] []=false by simp[placeB,c3])
       have HPL:=Hi (hnok.trans hpl);clear hpl hnok;obtain⟨W1,hW1,q1,z1,r1⟩:=box7 w (.string ⟨#[97,116]⟩) (.int .i64 2) (.int .i64 vi) (.string ⟨#[]⟩) (.string ⟨#[]⟩) (.string ⟨#[]⟩) (.slice A 0 c);obtain⟨W2,hW2,q2,z2,r2⟩:=zero7 W1;have HQ2:=Hi q2;have HB:=Hi (bthen r1 r2);have HW1:=Hi hW1;have HW2:=Hi hW2;obtain⟨x0,x1,x2,x3,x4,x5,x6⟩:=(q1.later r2).cells;have HZ:=Hi z1;clear hW1 hW2 q1 q2 r1 r2 z1 z2;go_enter Tryz.func57,Tryz.ntmps57
       go_wp2_with (first | (rw[←HW2.out]) | (rw[←HW1.out]))
       refine(rCol ⟨#[]⟩ ⟨#[97]⟩ W2).mono ?_;rintro e w3 ⟨rfl,b3⟩;obtain⟨y0,y1,y2,y3,y4,y5,y6⟩:=(HQ2.out.later b3).cells;obtain⟨f0,f1,f2,f3,f4,f5,f6⟩:=(HQ2.out.later b3).free;have HB3:=Hi (bthen HB.out b3);go_wp2_with fail;obtain⟨Wf,hWf,qf,zf,kf,bf⟩:=stored7 (HQ2.out.later b3) (.string ⟨#[99,111,108]⟩) (.int .i64 0) (.int .i64 0) (.string ⟨#[]⟩) (.string ⟨#[]⟩) (.string ⟨#[97]⟩) (.slice none 0 0);rw[←hWf];obtain⟨a0,a1,a2,a3,a4,a5,a6⟩:=qf.cells;exact bodyPost_ret (v:= .tuple #[.agg #[.string ⟨#[99,111,108]⟩,.int .i64 0,.int .i64 0,.string ⟨#[]⟩,.string ⟨#[]⟩,.string ⟨#[97]⟩,.slice none 0 0],.bool false]) (by(simp[results,Tryz.results57,go_sem,a0,a1,a2,a3,a4,a5,a6]) <;> assumption) rfl (nam_at HPL.out hnm (HB3.out.trans (bf _ (by have:=HZ.out;omega))))
       
     ·have hz:l.length≠0:=fun h=>c7 (List.length_eq_zero_iff.1 h)
      have he:l.isEmpty=false:=by cases l with | nil=>exact absurd rfl c7 | cons a l=>rfl
      have hdz:decide (l.length=0)=false:=decide_eq_false hz
      show Calls Tryz.prog 57 #[.agg #[.string ⟨#[97,116]⟩,.int .i64 2,.int .i64 vi,.string ⟨#[]⟩,.string ⟨#[]⟩,.string ⟨#[]⟩,.slice A l.length c],.int .i64 W] w _
      by_cases c3:0≤vi
      ·by_cases c4:vi < W
       ·have hpl:=(show placeB W ⟨2,vi,[]⟩ [] [] l=false by simp[placeB,he])
        have HPL:=Hi (hnok.trans hpl);clear hpl hnok;obtain⟨W1,hW1,q1,z1,r1⟩:=box7 w (.string ⟨#[97,116]⟩) (.int .i64 2) (.int .i64 vi) (.string ⟨#[]⟩) (.string ⟨#[]⟩) (.string ⟨#[]⟩) (.slice A l.length c);obtain⟨W2,hW2,q2,z2,r2⟩:=zero7 W1;have HQ2:=Hi q2;have HB:=Hi (bthen r1 r2);have HW1:=Hi hW1;have HW2:=Hi hW2;obtain⟨x0,x1,x2,x3,x4,x5,x6⟩:=(q1.later r2).cells;have HZ:=Hi z1;clear hW1 hW2 q1 q2 r1 r2 z1 z2;go_enter Tryz.func57,Tryz.ntmps57
        go_wp2_with (first | (rw[←HW2.out]) | (rw[←HW1.out]))
        refine(rCol ⟨#[]⟩ ⟨#[97]⟩ W2).mono ?_;rintro e w3 ⟨rfl,b3⟩;obtain⟨y0,y1,y2,y3,y4,y5,y6⟩:=(HQ2.out.later b3).cells;obtain⟨f0,f1,f2,f3,f4,f5,f6⟩:=(HQ2.out.later b3).free;have HB3:=Hi (bthen HB.out b3);go_wp2_with fail;obtain⟨Wf,hWf,qf,zf,kf,bf⟩:=stored7 (HQ2.out.later b3) (.string ⟨#[99,111,108]⟩) (.int .i64 0) (.int .i64 0) (.string ⟨#[]⟩) (.string ⟨#[]⟩) (.string ⟨#[97]⟩) (.slice none 0 0);rw[←hWf];obtain⟨a0,a1,a2,a3,a4,a5,a6⟩:=qf.cells;exact bodyPost_ret (v:= .tuple #[.agg #[.string ⟨#[99,111,108]⟩,.int .i64 0,.int .i64 0,.string ⟨#[]⟩,.string ⟨#[]⟩,.string ⟨#[97]⟩,.slice none 0 0],.bool false]) (by(simp[results,Tryz.results57,go_sem,a0,a1,a2,a3,a4,a5,a6]) <;> assumption) rfl (nam_at HPL.out hnm (HB3.out.trans (bf _ (by have:=HZ.out;omega))))
        
       ·have hpl:=(show placeB W ⟨2,vi,[]⟩ [] [] l=false by simp[placeB,he])
        have HPL:=Hi (hnok.trans hpl);clear hpl hnok;obtain⟨W1,hW1,q1,z1,r1⟩:=box7 w (.string ⟨#[97,116]⟩) (.int .i64 2) (.int .i64 vi) (.string ⟨#[]⟩) (.string ⟨#[]⟩) (.string ⟨#[]⟩) (.slice A l.length c);obtain⟨W2,hW2,q2,z2,r2⟩:=zero7 W1;have HQ2:=Hi q2;have HB:=Hi (bthen r1 r2);have HW1:=Hi hW1;have HW2:=Hi hW2;obtain⟨x0,x1,x2,x3,x4,x5,x6⟩:=(q1.later r2).cells;have HZ:=Hi z1;clear hW1 hW2 q1 q2 r1 r2 z1 z2;go_enter Tryz.func57,Tryz.ntmps57
        go_wp2_with (first | (rw[←HW2.out]) | (rw[←HW1.out]))
        refine(rCol ⟨#[]⟩ ⟨#[97]⟩ W2).mono ?_;rintro e w3 ⟨rfl,b3⟩;obtain⟨y0,y1,y2,y3,y4,y5,y6⟩:=(HQ2.out.later b3).cells;obtain⟨f0,f1,f2,f3,f4,f5,f6⟩:=(HQ2.out.later b3).free;have HB3:=Hi (bthen HB.out b3);go_wp2_with fail;obtain⟨Wf,hWf,qf,zf,kf,bf⟩:=stored7 (HQ2.out.later b3) (.string ⟨#[99,111,108]⟩) (.int .i64 0) (.int .i64 0) (.string ⟨#[]⟩) (.string ⟨#[]⟩) (.string ⟨#[97]⟩) (.slice none 0 0);rw[←hWf];obtain⟨a0,a1,a2,a3,a4,a5,a6⟩:=qf.cells;exact bodyPost_ret (v:= .tuple #[.agg #[.string ⟨#[99,111,108]⟩,.int .i64 0,.int .i64 0,.string ⟨#[]⟩,.string ⟨#[]⟩,.string ⟨#[97]⟩,.slice none 0 0],.bool false]) (by(simp[results,Tryz.results57,go_sem,a0,a1,a2,a3,a4,a5,a6]) <;> assumption) rfl (nam_at HPL.out hnm (HB3.out.trans (bf _ (by have:=HZ.out;omega))))
        
      ·have hpl:=(show placeB W ⟨2,vi,[]⟩ [] [] l=false by simp[placeB,he])
       have HPL:=Hi (hnok.trans hpl);clear hpl hnok;obtain⟨W1,hW1,q1,z1,r1⟩:=box7 w (.string ⟨#[97,116]⟩) (.int .i64 2) (.int .i64 vi) (.string ⟨#[]⟩) (.string ⟨#[]⟩) (.string ⟨#[]⟩) (.slice A l.length c);obtain⟨W2,hW2,q2,z2,r2⟩:=zero7 W1;have HQ2:=Hi q2;have HB:=Hi (bthen r1 r2);have HW1:=Hi hW1;have HW2:=Hi hW2;obtain⟨x0,x1,x2,x3,x4,x5,x6⟩:=(q1.later r2).cells;have HZ:=Hi z1;clear hW1 hW2 q1 q2 r1 r2 z1 z2;go_enter Tryz.func57,Tryz.ntmps57
       go_wp2_with (first | (rw[←HW2.out]) | (rw[←HW1.out]))
       refine(rCol ⟨#[]⟩ ⟨#[97]⟩ W2).mono ?_;rintro e w3 ⟨rfl,b3⟩;obtain⟨y0,y1,y2,y3,y4,y5,y6⟩:=(HQ2.out.later b3).cells;obtain⟨f0,f1,f2,f3,f4,f5,f6⟩:=(HQ2.out.later b3).free;have HB3:=Hi (bthen HB.out b3);go_wp2_with fail;obtain⟨Wf,hWf,qf,zf,kf,bf⟩:=stored7 (HQ2.out.later b3) (.string ⟨#[99,111,108]⟩) (.int .i64 0) (.int .i64 0) (.string ⟨#[]⟩) (.string ⟨#[]⟩) (.string ⟨#[97]⟩) (.slice none 0 0);rw[←hWf];obtain⟨a0,a1,a2,a3,a4,a5,a6⟩:=qf.cells;exact bodyPost_ret (v:= .tuple #[.agg #[.string ⟨#[99,111,108]⟩,.int .i64 0,.int .i64 0,.string ⟨#[]⟩,.string ⟨#[]⟩,.string ⟨#[97]⟩,.slice none 0 0],.bool false]) (by(simp[results,Tryz.results57,go_sem,a0,a1,a2,a3,a4,a5,a6]) <;> assumption) rfl (nam_at HPL.out hnm (HB3.out.trans (bf _ (by have:=HZ.out;omega))))
       
    ·have hd:((str n).toList == [])=false:=by rw[Lib.toList_data,str_list];simpa using c6
     show Calls Tryz.prog 57 #[.agg #[.string ⟨#[97,116]⟩,.int .i64 2,.int .i64 vi,.string ⟨#[]⟩,.string ⟨#[]⟩,.string (str n),.slice A l.length c],.int .i64 W] w _
     by_cases c3:0≤vi
     ·by_cases c4:vi < W
      ·have hpl:=(show placeB W ⟨2,vi,[]⟩ [] n l=false by simp[placeB,c6])
       have HPL:=Hi (hnok.trans hpl);clear hpl hnok;obtain⟨W1,hW1,q1,z1,r1⟩:=box7 w (.string ⟨#[97,116]⟩) (.int .i64 2) (.int .i64 vi) (.string ⟨#[]⟩) (.string ⟨#[]⟩) (.string (str n)) (.slice A l.length c);obtain⟨W2,hW2,q2,z2,r2⟩:=zero7 W1;have HQ2:=Hi q2;have HB:=Hi (bthen r1 r2);have HW1:=Hi hW1;have HW2:=Hi hW2;obtain⟨x0,x1,x2,x3,x4,x5,x6⟩:=(q1.later r2).cells;have HZ:=Hi z1;clear hW1 hW2 q1 q2 r1 r2 z1 z2;go_enter Tryz.func57,Tryz.ntmps57
       go_wp2_with (first | (rw[←HW2.out]) | (rw[←HW1.out]))
       refine(rCol ⟨#[]⟩ ⟨#[97]⟩ W2).mono ?_;rintro e w3 ⟨rfl,b3⟩;obtain⟨y0,y1,y2,y3,y4,y5,y6⟩:=(HQ2.out.later b3).cells;obtain⟨f0,f1,f2,f3,f4,f5,f6⟩:=(HQ2.out.later b3).free;have HB3:=Hi (bthen HB.out b3);go_wp2_with fail;obtain⟨Wf,hWf,qf,zf,kf,bf⟩:=stored7 (HQ2.out.later b3) (.string ⟨#[99,111,108]⟩) (.int .i64 0) (.int .i64 0) (.string ⟨#[]⟩) (.string ⟨#[]⟩) (.string ⟨#[97]⟩) (.slice none 0 0);rw[←hWf];obtain⟨a0,a1,a2,a3,a4,a5,a6⟩:=qf.cells;exact bodyPost_ret (v:= .tuple #[.agg #[.string ⟨#[99,111,108]⟩,.int .i64 0,.int .i64 0,.string ⟨#[]⟩,.string ⟨#[]⟩,.string ⟨#[97]⟩,.slice none 0 0],.bool false]) (by(simp[results,Tryz.results57,go_sem,a0,a1,a2,a3,a4,a5,a6]) <;> assumption) rfl (nam_at HPL.out hnm (HB3.out.trans (bf _ (by have:=HZ.out;omega))))
       
      ·have hpl:=(show placeB W ⟨2,vi,[]⟩ [] n l=false by simp[placeB,c6])
       have HPL:=Hi (hnok.trans hpl);clear hpl hnok;obtain⟨W1,hW1,q1,z1,r1⟩:=box7 w (.string ⟨#[97,116]⟩) (.int .i64 2) (.int .i64 vi) (.string ⟨#[]⟩) (.string ⟨#[]⟩) (.string (str n)) (.slice A l.length c);obtain⟨W2,hW2,q2,z2,r2⟩:=zero7 W1;have HQ2:=Hi q2;have HB:=Hi (bthen r1 r2);have HW1:=Hi hW1;have HW2:=Hi hW2;obtain⟨x0,x1,x2,x3,x4,x5,x6⟩:=(q1.later r2).cells;have HZ:=Hi z1;clear hW1 hW2 q1 q2 r1 r2 z1 z2;go_enter Tryz.func57,Tryz.ntmps57
       go_wp2_with (first | (rw[←HW2.out]) | (rw[←HW1.out]))
       refine(rCol ⟨#[]⟩ ⟨#[97]⟩ W2).mono ?_;rintro e w3 ⟨rfl,b3⟩;obtain⟨y0,y1,y2,y3,y4,y5,y6⟩:=(HQ2.out.later b3).cells;obtain⟨f0,f1,f2,f3,f4,f5,f6⟩:=(HQ2.out.later b3).free;have HB3:=Hi (bthen HB.out b3);go_wp2_with fail;obtain⟨Wf,hWf,qf,zf,kf,bf⟩:=stored7 (HQ2.out.later b3) (.string ⟨#[99,111,108]⟩) (.int .i64 0) (.int .i64 0) (.string ⟨#[]⟩) (.string ⟨#[]⟩) (.string ⟨#[97]⟩) (.slice none 0 0);rw[←hWf];obtain⟨a0,a1,a2,a3,a4,a5,a6⟩:=qf.cells;exact bodyPost_ret (v:= .tuple #[.agg #[.string ⟨#[99,111,108]⟩,.int .i64 0,.int .i64 0,.string ⟨#[]⟩,.string ⟨#[]⟩,.string ⟨#[97]⟩,.slice none 0 0],.bool false]) (by(simp[results,Tryz.results57,go_sem,a0,a1,a2,a3,a4,a5,a6]) <;> assumption) rfl (nam_at HPL.out hnm (HB3.out.trans (bf _ (by have:=HZ.out;omega))))
       
     ·have hpl:=(show placeB W ⟨2,vi,[]⟩ [] n l=false by simp[placeB,c6])
      have HPL:=Hi (hnok.trans hpl);clear hpl hnok;obtain⟨W1,hW1,q1,z1,r1⟩:=box7 w (.string ⟨#[97,116]⟩) (.int .i64 2) (.int .i64 vi) (.string ⟨#[]⟩) (.string ⟨#[]⟩) (.string (str n)) (.slice A l.length c);obtain⟨W2,hW2,q2,z2,r2⟩:=zero7 W1;have HQ2:=Hi q2;have HB:=Hi (bthen r1 r2);have HW1:=Hi hW1;have HW2:=Hi hW2;obtain⟨x0,x1,x2,x3,x4,x5,x6⟩:=(q1.later r2).cells;have HZ:=Hi z1;clear hW1 hW2 q1 q2 r1 r2 z1 z2;go_enter Tryz.func57,Tryz.ntmps57
      go_wp2_with (first | (rw[←HW2.out]) | (rw[←HW1.out]))
      refine(rCol ⟨#[]⟩ ⟨#[97]⟩ W2).mono ?_;rintro e w3 ⟨rfl,b3⟩;obtain⟨y0,y1,y2,y3,y4,y5,y6⟩:=(HQ2.out.later b3).cells;obtain⟨f0,f1,f2,f3,f4,f5,f6⟩:=(HQ2.out.later b3).free;have HB3:=Hi (bthen HB.out b3);go_wp2_with fail;obtain⟨Wf,hWf,qf,zf,kf,bf⟩:=stored7 (HQ2.out.later b3) (.string ⟨#[99,111,108]⟩) (.int .i64 0) (.int .i64 0) (.string ⟨#[]⟩) (.string ⟨#[]⟩) (.string ⟨#[97]⟩) (.slice none 0 0);rw[←hWf];obtain⟨a0,a1,a2,a3,a4,a5,a6⟩:=qf.cells;exact bodyPost_ret (v:= .tuple #[.agg #[.string ⟨#[99,111,108]⟩,.int .i64 0,.int .i64 0,.string ⟨#[]⟩,.string ⟨#[]⟩,.string ⟨#[97]⟩,.slice none 0 0],.bool false]) (by(simp[results,Tryz.results57,go_sem,a0,a1,a2,a3,a4,a5,a6]) <;> assumption) rfl (nam_at HPL.out hnm (HB3.out.trans (bf _ (by have:=HZ.out;omega))))
      
   ·have hd:((str t).toList == [])=false:=by rw[Lib.toList_data,str_list];simpa using c5
    show Calls Tryz.prog 57 #[.agg #[.string ⟨#[97,116]⟩,.int .i64 2,.int .i64 vi,.string ⟨#[]⟩,.string (str t),.string (str n),.slice A l.length c],.int .i64 W] w _
    by_cases c3:0≤vi
    ·by_cases c4:vi < W
     ·have hpl:=(show placeB W ⟨2,vi,[]⟩ t n l=false by simp[placeB,c5])
      have HPL:=Hi (hnok.trans hpl);clear hpl hnok;obtain⟨W1,hW1,q1,z1,r1⟩:=box7 w (.string ⟨#[97,116]⟩) (.int .i64 2) (.int .i64 vi) (.string ⟨#[]⟩) (.string (str t)) (.string (str n)) (.slice A l.length c);obtain⟨W2,hW2,q2,z2,r2⟩:=zero7 W1;have HQ2:=Hi q2;have HB:=Hi (bthen r1 r2);have HW1:=Hi hW1;have HW2:=Hi hW2;obtain⟨x0,x1,x2,x3,x4,x5,x6⟩:=(q1.later r2).cells;have HZ:=Hi z1;clear hW1 hW2 q1 q2 r1 r2 z1 z2;go_enter Tryz.func57,Tryz.ntmps57
      go_wp2_with (first | (rw[←HW2.out]) | (rw[←HW1.out]))
      refine(rCol ⟨#[]⟩ ⟨#[97]⟩ W2).mono ?_;rintro e w3 ⟨rfl,b3⟩;obtain⟨y0,y1,y2,y3,y4,y5,y6⟩:=(HQ2.out.later b3).cells;obtain⟨f0,f1,f2,f3,f4,f5,f6⟩:=(HQ2.out.later b3).free;have HB3:=Hi (bthen HB.out b3);go_wp2_with fail;obtain⟨Wf,hWf,qf,zf,kf,bf⟩:=stored7 (HQ2.out.later b3) (.string ⟨#[99,111,108]⟩) (.int .i64 0) (.int .i64 0) (.string ⟨#[]⟩) (.string ⟨#[]⟩) (.string ⟨#[97]⟩) (.slice none 0 0);rw[←hWf];obtain⟨a0,a1,a2,a3,a4,a5,a6⟩:=qf.cells;exact bodyPost_ret (v:= .tuple #[.agg #[.string ⟨#[99,111,108]⟩,.int .i64 0,.int .i64 0,.string ⟨#[]⟩,.string ⟨#[]⟩,.string ⟨#[97]⟩,.slice none 0 0],.bool false]) (by(simp[results,Tryz.results57,go_sem,a0,a1,a2,a3,a4,a5,a6]) <;> assumption) rfl (nam_at HPL.out hnm (HB3.out.trans (bf _ (by have:=HZ.out;omega))))
      
     ·have hpl:=(show placeB W ⟨2,vi,[]⟩ t n l=false by simp[placeB,c5])
      have HPL:=Hi (hnok.trans hpl);clear hpl hnok;obtain⟨W1,hW1,q1,z1,r1⟩:=box7 w (.string ⟨#[97,116]⟩) (.int .i64 2) (.int .i64 vi) (.string ⟨#[]⟩) (.string (str t)) (.string (str n)) (.slice A l.length c);obtain⟨W2,hW2,q2,z2,r2⟩:=zero7 W1;have HQ2:=Hi q2;have HB:=Hi (bthen r1 r2);have HW1:=Hi hW1;have HW2:=Hi hW2;obtain⟨x0,x1,x2,x3,x4,x5,x6⟩:=(q1.later r2).cells;have HZ:=Hi z1;clear hW1 hW2 q1 q2 r1 r2 z1 z2;go_enter Tryz.func57,Tryz.ntmps57
      go_wp2_with (first | (rw[←HW2.out]) | (rw[←HW1.out]))
      refine(rCol ⟨#[]⟩ ⟨#[97]⟩ W2).mono ?_;rintro e w3 ⟨rfl,b3⟩;obtain⟨y0,y1,y2,y3,y4,y5,y6⟩:=(HQ2.out.later b3).cells;obtain⟨f0,f1,f2,f3,f4,f5,f6⟩:=(HQ2.out.later b3).free;have HB3:=Hi (bthen HB.out b3);go_wp2_with fail;obtain⟨Wf,hWf,qf,zf,kf,bf⟩:=stored7 (HQ2.out.later b3) (.string ⟨#[99,111,108]⟩) (.int .i64 0) (.int .i64 0) (.string ⟨#[]⟩) (.string ⟨#[]⟩) (.string ⟨#[97]⟩) (.slice none 0 0);rw[←hWf];obtain⟨a0,a1,a2,a3,a4,a5,a6⟩:=qf.cells;exact bodyPost_ret (v:= .tuple #[.agg #[.string ⟨#[99,111,108]⟩,.int .i64 0,.int .i64 0,.string ⟨#[]⟩,.string ⟨#[]⟩,.string ⟨#[97]⟩,.slice none 0 0],.bool false]) (by(simp[results,Tryz.results57,go_sem,a0,a1,a2,a3,a4,a5,a6]) <;> assumption) rfl (nam_at HPL.out hnm (HB3.out.trans (bf _ (by have:=HZ.out;omega))))
      
    ·have hpl:=(show placeB W ⟨2,vi,[]⟩ t n l=false by simp[placeB,c5])
     have HPL:=Hi (hnok.trans hpl);clear hpl hnok;obtain⟨W1,hW1,q1,z1,r1⟩:=box7 w (.string ⟨#[97,116]⟩) (.int .i64 2) (.int .i64 vi) (.string ⟨#[]⟩) (.string (str t)) (.string (str n)) (.slice A l.length c);obtain⟨W2,hW2,q2,z2,r2⟩:=zero7 W1;have HQ2:=Hi q2;have HB:=Hi (bthen r1 r2);have HW1:=Hi hW1;have HW2:=Hi hW2;obtain⟨x0,x1,x2,x3,x4,x5,x6⟩:=(q1.later r2).cells;have HZ:=Hi z1;clear hW1 hW2 q1 q2 r1 r2 z1 z2;go_enter Tryz.func57,Tryz.ntmps57
     go_wp2_with (first | (rw[←HW2.out]) | (rw[←HW1.out]))
     refine(rCol ⟨#[]⟩ ⟨#[97]⟩ W2).mono ?_;rintro e w3 ⟨rfl,b3⟩;obtain⟨y0,y1,y2,y3,y4,y5,y6⟩:=(HQ2.out.later b3).cells;obtain⟨f0,f1,f2,f3,f4,f5,f6⟩:=(HQ2.out.later b3).free;have HB3:=Hi (bthen HB.out b3);go_wp2_with fail;obtain⟨Wf,hWf,qf,zf,kf,bf⟩:=stored7 (HQ2.out.later b3) (.string ⟨#[99,111,108]⟩) (.int .i64 0) (.int .i64 0) (.string ⟨#[]⟩) (.string ⟨#[]⟩) (.string ⟨#[97]⟩) (.slice none 0 0);rw[←hWf];obtain⟨a0,a1,a2,a3,a4,a5,a6⟩:=qf.cells;exact bodyPost_ret (v:= .tuple #[.agg #[.string ⟨#[99,111,108]⟩,.int .i64 0,.int .i64 0,.string ⟨#[]⟩,.string ⟨#[]⟩,.string ⟨#[97]⟩,.slice none 0 0],.bool false]) (by(simp[results,Tryz.results57,go_sem,a0,a1,a2,a3,a4,a5,a6]) <;> assumption) rfl (nam_at HPL.out hnm (HB3.out.trans (bf _ (by have:=HZ.out;omega))))
     
  ·have hd:((str vs).toList == [])=false:=by rw[Lib.toList_data,str_list];simpa using c2
   have hpl:=(show placeB W ⟨2,vi,vs⟩ t n l=false by simp[placeB,c2])
   have HPL:=Hi (hnok.trans hpl);clear hpl hnok;obtain⟨W1,hW1,q1,z1,r1⟩:=box7 w (.string ⟨#[97,116]⟩) (.int .i64 2) (.int .i64 vi) (.string (str vs)) (.string (str t)) (.string (str n)) (.slice A l.length c);obtain⟨W2,hW2,q2,z2,r2⟩:=zero7 W1;have HQ2:=Hi q2;have HB:=Hi (bthen r1 r2);have HW1:=Hi hW1;have HW2:=Hi hW2;obtain⟨x0,x1,x2,x3,x4,x5,x6⟩:=(q1.later r2).cells;have HZ:=Hi z1;clear hW1 hW2 q1 q2 r1 r2 z1 z2;go_enter Tryz.func57,Tryz.ntmps57
   go_wp2_with (first | (rw[←HW2.out]) | (rw[←HW1.out]))
   refine(rCol ⟨#[]⟩ ⟨#[97]⟩ W2).mono ?_;rintro e w3 ⟨rfl,b3⟩;obtain⟨y0,y1,y2,y3,y4,y5,y6⟩:=(HQ2.out.later b3).cells;obtain⟨f0,f1,f2,f3,f4,f5,f6⟩:=(HQ2.out.later b3).free;have HB3:=Hi (bthen HB.out b3);go_wp2_with fail;obtain⟨Wf,hWf,qf,zf,kf,bf⟩:=stored7 (HQ2.out.later b3) (.string ⟨#[99,111,108]⟩) (.int .i64 0) (.int .i64 0) (.string ⟨#[]⟩) (.string ⟨#[]⟩) (.string ⟨#[97]⟩) (.slice none 0 0);rw[←hWf];obtain⟨a0,a1,a2,a3,a4,a5,a6⟩:=qf.cells;exact bodyPost_ret (v:= .tuple #[.agg #[.string ⟨#[99,111,108]⟩,.int .i64 0,.int .i64 0,.string ⟨#[]⟩,.string ⟨#[]⟩,.string ⟨#[97]⟩,.slice none 0 0],.bool false]) (by(simp[results,Tryz.results57,go_sem,a0,a1,a2,a3,a4,a5,a6]) <;> assumption) rfl (nam_at HPL.out hnm (HB3.out.trans (bf _ (by have:=HZ.out;omega))))
   
 ·have hpl:=(show placeB W ⟨vk,vi,vs⟩ t n l=false by simp[placeB,c1])
  have HPL:=Hi (hnok.trans hpl);clear hpl hnok;obtain⟨W1,hW1,q1,z1,r1⟩:=box7 w (.string ⟨#[97,116]⟩) (.int .i64 vk) (.int .i64 vi) (.string (str vs)) (.string (str t)) (.string (str n)) (.slice A l.length c);obtain⟨W2,hW2,q2,z2,r2⟩:=zero7 W1;have HQ2:=Hi q2;have HB:=Hi (bthen r1 r2);have HW1:=Hi hW1;have HW2:=Hi hW2;obtain⟨x0,x1,x2,x3,x4,x5,x6⟩:=(q1.later r2).cells;have HZ:=Hi z1;clear hW1 hW2 q1 q2 r1 r2 z1 z2;go_enter Tryz.func57,Tryz.ntmps57
  go_wp2_with (first | (rw[←HW2.out]) | (rw[←HW1.out]))
  refine(rCol ⟨#[]⟩ ⟨#[97]⟩ W2).mono ?_;rintro e w3 ⟨rfl,b3⟩;obtain⟨y0,y1,y2,y3,y4,y5,y6⟩:=(HQ2.out.later b3).cells;obtain⟨f0,f1,f2,f3,f4,f5,f6⟩:=(HQ2.out.later b3).free;have HB3:=Hi (bthen HB.out b3);go_wp2_with fail;obtain⟨Wf,hWf,qf,zf,kf,bf⟩:=stored7 (HQ2.out.later b3) (.string ⟨#[99,111,108]⟩) (.int .i64 0) (.int .i64 0) (.string ⟨#[]⟩) (.string ⟨#[]⟩) (.string ⟨#[97]⟩) (.slice none 0 0);rw[←hWf];obtain⟨a0,a1,a2,a3,a4,a5,a6⟩:=qf.cells;exact bodyPost_ret (v:= .tuple #[.agg #[.string ⟨#[99,111,108]⟩,.int .i64 0,.int .i64 0,.string ⟨#[]⟩,.string ⟨#[]⟩,.string ⟨#[97]⟩,.slice none 0 0],.bool false]) (by(simp[results,Tryz.results57,go_sem,a0,a1,a2,a3,a4,a5,a6]) <;> assumption) rfl (nam_at HPL.out hnm (HB3.out.trans (bf _ (by have:=HZ.out;omega))))
  
theorem named_any(W:Int)(e:E):∀ (x:Value)(S:Nat→Prop)(w:World),EAt S w e x→e.size≤100000→Calls Tryz.prog 57 #[x,.int .i64 W] w (Nam W w e):=by
 induction e using E.ind with
 | h o v t n l ih =>
  rintro x S w ⟨A,c,rfl,hsub⟩ hsz;obtain⟨hlc,hcm,hmem⟩:=hsub;have hm:l.length≤9223372036854775807:=Nat.le_trans hlc hcm;have hlen:=len_size l;simp only[E.size]at hsz;have HI:=Hi (fun(k:Nat) (hk:k < l.length) (x:Value) (S:Nat→Prop) (w:World) (hx:EAt S w l[k] x)=>ih l[k] (List.getElem_mem hk) x S w hx (by have:=size_mem (List.getElem_mem hk);omega))
  have HIN0:=fun w=>in_at n [wCount,wSum,wMin,wMax] w (by decide)
  rw[in_agg]at HIN0;have HIN1:∀ w:World,Calls Tryz.prog 43 #[.string (str n),.slice (some ⟨w.heap.size,0,none⟩) 4 4] (w.alloc (.cells #[.string ⟨#[99,111,117,110,116]⟩,.string ⟨#[115,117,109]⟩,.string ⟨#[109,105,110]⟩,.string ⟨#[109,97,120]⟩] 9)) fun r w'=>r = .returned (.bool (aggB n))∧Below w.heap.size w w':=HIN0
  have HIN:=Hi HIN1;clear HIN0 HIN1
  have hnok:(E.mk o v t n l).nok W=if(o == wCol) || ((o == wStar) || ((o == wCall) && aggB n))then false else if(o == wAt)then placeB W v t n l else E.nokL W l:=by
   rw[E.nok]
   by_cases h1:o=wCol
   ·subst h1;simp
   by_cases h2:o=wStar
   ·subst h2;simp
   by_cases h3:o=wCall
   ·subst h3
    cases aggB n <;> simp <;> decide
   simp[h1,h2,h3]
  have eC:((str o).toList == [99,111,108])=(o == wCol):=by rw[Lib.toList_data,str_list];rfl
  have eS:((str o).toList == [115,116,97,114])=(o == wStar):=by rw[Lib.toList_data,str_list];rfl
  have eA:((str o).toList == [99,97,108,108])=(o == wCall):=by rw[Lib.toList_data,str_list];rfl
  have eT:((str o).toList == [97,116])=(o == wAt):=by rw[Lib.toList_data,str_list];rfl
  obtain⟨W1,hW1,q1,z1,r1⟩:=box7 w (.string (str o)) (.int .i64 v.k) (.int .i64 v.i) (.string (str v.s)) (.string (str t)) (.string (str n)) (.slice A l.length c);obtain⟨W2,hW2,q2,z2,r2⟩:=zero7 W1;have HQ1:=Hi (q1.later r2);have HQ2:=Hi q2;have HB:=Hi (bthen r1 r2);have HW1:=Hi hW1;have HW2:=Hi hW2;obtain⟨x0,x1,x2,x3,x4,x5,x6⟩:=(q1.later r2).cells;obtain⟨y0,y1,y2,y3,y4,y5,y6⟩:=q2.cells;obtain⟨f0,f1,f2,f3,f4,f5,f6⟩:=q2.free;have HM:=Hi hmem;clear hmem hlc hcm hW1 hW2 q1 q2 r1 r2 ih;have HZ:=Hi (⟨z1,z2⟩:W1.heap.size=w.heap.size+1∧W2.heap.size=W1.heap.size+1);clear z1 z2;simp only[E.op,E.v,E.tb,E.nm,E.l,eVal]
  by_cases hno:((o == wCol) || ((o == wStar) || ((o == wCall) && aggB n)))=true
  ·rw[if_pos hno]at hnok
   have HNO:=Hi hnok;clear hnok HI HM;generalize aggB n=ag at *;generalize (o == wCol)=pC at *;generalize (o == wStar)=pS at *;generalize (o == wCall)=pA at *;generalize (o == wAt)=pT at *;go_enter Tryz.func57,Tryz.ntmps57;cases pC
   ·cases pS
    ·cases pA
     ·simp at hno
     ·cases ag
      ·simp at hno
      ·go_wp2_with (first | (rw[←HW2.out]) | (rw[←HW1.out]))
       refine(HIN.out _).mono ?_;rintro e w3 ⟨rfl,b3⟩;obtain⟨x0,x1,x2,x3,x4,x5,x6⟩:=(HQ1.out.later b3).cells;obtain⟨y0,y1,y2,y3,y4,y5,y6⟩:=(HQ2.out.later b3).cells;obtain⟨f0,f1,f2,f3,f4,f5,f6⟩:=(HQ2.out.later b3).free;have HB3:=Hi (bthen HB.out b3);have HGE:=Hi (HZ.out.1);go_wp2_with fail;obtain⟨Wf,hWf,qf,zf,kf,bf⟩:=stored7 (HQ2.out.later b3) (.string (str o)) (.int .i64 v.k) (.int .i64 v.i) (.string (str v.s)) (.string (str t)) (.string (str n)) (.slice A l.length c);rw[←hWf];obtain⟨a0,a1,a2,a3,a4,a5,a6⟩:=qf.cells;exact bodyPost_ret (v:= .tuple #[.agg #[.string (str o),.int .i64 v.k,.int .i64 v.i,.string (str v.s),.string (str t),.string (str n),.slice A l.length c],.bool false]) (by simp[results,Tryz.results57,go_sem,a0,a1,a2,a3,a4,a5,a6]) rfl (nam_no HNO.out _ _ _ _ _ _ _ _ _ (HB3.out.trans (bf _ (by have:=HZ.out.1;omega))))
    ·go_wp2_with (first | (rw[←HW2.out]) | (rw[←HW1.out]))
     obtain⟨Wf,hWf,qf,zf,kf,bf⟩:=stored7 HQ2.out (.string (str o)) (.int .i64 v.k) (.int .i64 v.i) (.string (str v.s)) (.string (str t)) (.string (str n)) (.slice A l.length c);rw[←hWf];obtain⟨a0,a1,a2,a3,a4,a5,a6⟩:=qf.cells;exact bodyPost_ret (v:= .tuple #[.agg #[.string (str o),.int .i64 v.k,.int .i64 v.i,.string (str v.s),.string (str t),.string (str n),.slice A l.length c],.bool false]) (by simp[results,Tryz.results57,go_sem,a0,a1,a2,a3,a4,a5,a6]) rfl (nam_no HNO.out _ _ _ _ _ _ _ _ _ (HB.out.trans (bf _ (by have:=HZ.out.1;omega))))
   ·go_wp2_with (first | (rw[←HW2.out]) | (rw[←HW1.out]))
    obtain⟨Wf,hWf,qf,zf,kf,bf⟩:=stored7 HQ2.out (.string (str o)) (.int .i64 v.k) (.int .i64 v.i) (.string (str v.s)) (.string (str t)) (.string (str n)) (.slice A l.length c);rw[←hWf];obtain⟨a0,a1,a2,a3,a4,a5,a6⟩:=qf.cells;exact bodyPost_ret (v:= .tuple #[.agg #[.string (str o),.int .i64 v.k,.int .i64 v.i,.string (str v.s),.string (str t),.string (str n),.slice A l.length c],.bool false]) (by simp[results,Tryz.results57,go_sem,a0,a1,a2,a3,a4,a5,a6]) rfl (nam_no HNO.out _ _ _ _ _ _ _ _ _ (HB.out.trans (bf _ (by have:=HZ.out.1;omega))))
  ·rw[if_neg hno]at hnok
   by_cases hat:o=wAt
   ·subst hat
    exact(named_at W v t n l A c w)
   ·have hT:(o == wAt)=false:=by simpa using hat
    have hnm:(E.mk o v t n l).nmd = .mk o v t n (E.nmdL l):=by rw[E.nmd,if_neg hat]
    rw[hT]at hnok eT;rw[if_neg (by decide)]at hnok
    have HL:Hid (∀ k (hk:k < l.length),E.nokL W (l.drop k)=(l[k].nok W && E.nokL W (l.drop (k+1)))):=Hi fun k hk=>by rw[List.drop_eq_getElem_cons hk];simp only[E.nokL]
    generalize hR:E.nokL W l=R at *;have HR:Hid (E.nokL W (l.drop 0)=R):=Hi (by rw[List.drop_zero];exact hR)
    have hC:(o == wCol)=false:=by cases h:(o == wCol) <;> simp_all
    have hS:(o == wStar)=false:=by cases h:(o == wStar) <;> simp_all
    have hAg:(o == wCall)=true→aggB n=false:=fun h=>by cases h2:aggB n <;> simp_all
    have HAG:=Hi hAg;rw[hC]at eC;rw[hS]at eS;clear hno hat hT hR hC hS hAg;generalize (o == wCall)=pA at *;cases pA
    ·clear HAG HIN
     have HQ1b:=HQ1;have HQ2b:=HQ2;have HBb:=HB;go_enter Tryz.func57,Tryz.ntmps57
     go_wp2_with (first | (rw[←HW2.out]) | (rw[←HW1.out]))
     clear x0 x1 x2 x3 x4 x5 x6 y0 y1 y2 y3 y4 y5 y6 f0 f1 f2 f3 f4 f5 f6;have hz0:0 < W2.heap.size:=by have:=HQ1b.out.lt;omega
     have HZ0:=Hi hz0;have HS12:=Hi (⟨HQ1b.out.lt,HQ2b.out.lt⟩:w.heap.size < W2.heap.size∧W1.heap.size < W2.heap.size);clear hz0
     go_loopw [79,7] (fun iv lv wr=>∃ k:Nat,k≤l.length∧iv = .int .i64 k∧Hid (E.nokL W (l.drop k)=R)∧Hid (Below W2.heap.size W2 wr)∧Hid (OwnL wr W2.heap.size (fun j=>W2.heap.size≤j) (E.nmdL (l.take k)) false lv)) (fun iv _ _=>l.length - (intOf iv).toNat)
     case atStart=>exact⟨0,Nat.zero_le _,rfl,HR.out,Below.refl _ _,Hi (by rw[List.take_zero];exact ownL_nilE _ _ _)⟩
     case round =>
      obtain⟨k,hk,rfl,HK,HBr,HO⟩:=hrel;have Q1:=Hi (HQ1b.out.later HBr.out);have Q2:=Hi (HQ2b.out.later HBr.out);have HBw:=Hi (bthen HBb.out HBr.out)
      by_cases hlt:k < l.length
      ·obtain⟨g,off,hA,hS,hg,hl⟩:=HM.out (by omega)
       obtain⟨A',c',⟨g0,g1,g2,g3,g4,g5,g6⟩,hs⟩:=hl.get k hlt;have hkz:(k:Int) < (l.length:Int):=by omega
       subst hA;have i0:=(HBw.out.cell (p:=⟨g,off+k*7,none⟩) hg).trans g0;have i1:=(HBw.out.cell (p:=⟨g,off+k*7+1,none⟩) hg).trans g1;have i2:=(HBw.out.cell (p:=⟨g,off+k*7+2,none⟩) hg).trans g2;have i3:=(HBw.out.cell (p:=⟨g,off+k*7+3,none⟩) hg).trans g3;have i4:=(HBw.out.cell (p:=⟨g,off+k*7+4,none⟩) hg).trans g4;have i5:=(HBw.out.cell (p:=⟨g,off+k*7+5,none⟩) hg).trans g5;have i6:=(HBw.out.cell (p:=⟨g,off+k*7+6,none⟩) hg).trans g6;obtain⟨Wa,Wb,hWa,hWb,b1,b2,hz,hb1,hb2⟩:=made7 wr (.string (str l[k].op)) (.int .i64 l[k].v.k) (.int .i64 l[k].v.i) (.string (str l[k].v.s)) (.string (str l[k].tb)) (.string (str l[k].nm)) (.slice A' l[k].l.length c');have hf1:=b1.free;have hy1:=b2.cells;obtain⟨p10,p11,p12,p13,p14,p15,p16⟩:=b1.cells
       have hE:EAt S Wb l[k] (eVal l[k].op l[k].v l[k].tb l[k].nm (.slice A' l[k].l.length c')):=by
        have h0:EAt S w l[k] (eVal l[k].op l[k].v l[k].tb l[k].nm (.slice A' l[k].l.length c')):=⟨A',c',rfl,hs⟩;exact(h0.later HBw.out).later hb2
       have HC:=Hi (HI.out k hlt _ S Wb hE);have hKK:=HL.out k hlt;rw[HK.out]at hKK;have HTK:Hid (E.nmdL (l.take (k+1))=E.nmdL (l.take k) ++ [l[k].nmd]):=Hi (by rw[List.take_succ_eq_append_getElem hlt,nmdL_map,nmdL_map,List.map_append];rfl)
       have HBa:=Hi hb2;have HWa:=Hi hWa;have HWb:=Hi hWb;have HZb:=Hi hz;obtain⟨f10,f11,f12,f13,f14,f15,f16⟩:=hf1;obtain⟨y10,y11,y12,y13,y14,y15,y16⟩:=hy1;unfold eVal at HC;generalize str l[k].op=bo' at *;generalize str l[k].tb=bt' at *;generalize str l[k].nm=bn' at *;generalize str l[k].v.s=bs' at *;generalize l[k].v.k=vk' at *;generalize l[k].v.i=vi' at *;generalize l[k].l.length=ln' at *;generalize l[k]=ek at *;have HKK:=Hi hKK;clear hWa hWb hs hl hE g0 g1 g2 g3 g4 g5 g6 b1 b2 hb1 hb2 hz HI HM HK HR HL hKK
       go_wp2_with (first | (rw[←HWb.out]) | (rw[←HWa.out]))
       refine(HC.out).mono ?_;rintro r w4 ⟨b4,hcase⟩;have HB4:=Hi b4;have P1:=Hi (Q1.out.later (bthen HBa.out b4));have P2:=Hi (Q2.out.later (bthen HBa.out b4));clear b4 HC f10 f11 f12 f13 f14 f15 f16 y10 y11 y12 y13 y14 y15 y16 p10 p11 p12 p13 p14 p15 p16;rcases hcase with ⟨hk1,An,cn,rfl,hs4⟩ | ⟨hk0,s0,j1,j2,s3,s4,s5,An,nn,cn,rfl⟩
       ·obtain⟨Wc,Wd,hWc,hWd,b1,b2,hz,hb1,hb2⟩:=made7 w4 (.string (str ek.nmd.op)) (.int .i64 ek.nmd.v.k) (.int .i64 ek.nmd.v.i) (.string (str ek.nmd.v.s)) (.string (str ek.nmd.tb)) (.string (str ek.nmd.nm)) (.slice An ek.nmd.l.length cn)
        have hlk:(E.nmdL (l.take k)).length≤1000000:=by rw[nmdL_map,List.length_map,List.length_take];omega
        obtain⟨v6,w6,r6,HO6,HB6⟩:=app_nmd HZ0.out HBr.out HBa.out HB4.out hb2 HO.out hs4 hlk;rw[←HTK.out]at HO6;have hk3:=HKK.out;rw[hk1,Bool.true_and]at hk3;have HK3:=Hi hk3.symm;have hf1:=b1.free;have hy1:=b2.cells;obtain⟨p10,p11,p12,p13,p14,p15,p16⟩:=b1.cells;obtain⟨f10,f11,f12,f13,f14,f15,f16⟩:=hf1;obtain⟨y10,y11,y12,y13,y14,y15,y16⟩:=hy1;have HWc:=Hi hWc;have HWd:=Hi hWd;unfold eVal;generalize str ek.nmd.op=bo2 at *;generalize str ek.nmd.tb=bt2 at *;generalize str ek.nmd.nm=bn2 at *;generalize str ek.nmd.v.s=bs2 at *;generalize ek.nmd.v.k=vk2 at *;generalize ek.nmd.v.i=vi2 at *;generalize ek.nmd.l.length=ln2 at *;clear hWc hWd b1 b2 hb1 hb2 hz hs4 hlk hk3 hk1 HKK HTK HO HBr P1 P2 Q1 Q2 HBw
        go_wp2_with (first | (rw[←HWd.out]) | (rw[←HWc.out]) | (at_builtin;refine Lib.wpList_append_run_sl _ rfl _ _ 27 rfl _ _ rfl rfl r6 ?_))
        go_roundw
        case measure=>simp[intOf];omega
        case rel=>exact⟨k+1,by omega,by go_num,HK3.out,HB6.out,HO6⟩
       ·obtain⟨Wc,Wd,hWc,hWd,b1,b2,hz,hb1,hb2⟩:=made7 w4 (.string s0) (.int .i64 j1) (.int .i64 j2) (.string s3) (.string s4) (.string s5) (.slice An nn cn)
        have hk3:=HKK.out;rw[hk0,Bool.false_and]at hk3;have HNO:=Hi (hnok.trans hk3);have P1d:=Hi (P1.out.later hb2);have P2d:=Hi (P2.out.later hb2);have HBd:=Hi (bthen HBw.out (bthen HBa.out (bthen HB4.out hb2)));have HWc:=Hi hWc;have HWd:=Hi hWd;obtain⟨p10,p11,p12,p13,p14,p15,p16⟩:=b1.cells;obtain⟨f10,f11,f12,f13,f14,f15,f16⟩:=b1.free;obtain⟨u0,u1,u2,u3,u4,u5,u6⟩:=P1d.out.cells;obtain⟨o0,o1,o2,o3,o4,o5,o6⟩:=P2d.out.cells;obtain⟨m0,m1,m2,m3,m4,m5,m6⟩:=P2d.out.free;clear hWc hWd b1 b2 hb1 hb2 hz hk3 hk0 HKK HTK HO HBr P1 P2 Q1 Q2 HBw
        go_wp2_with (first | (rw[←HWd.out]) | (rw[←HWc.out]))
        obtain⟨Wf,hWf,qf,zf,kf,bf⟩:=stored7 P2d.out (.string (str o)) (.int .i64 v.k) (.int .i64 v.i) (.string (str v.s)) (.string (str t)) (.string (str n)) (.slice (some ⟨g,off,none⟩) l.length c);rw[←hWf];obtain⟨a0,a1,a2,a3,a4,a5,a6⟩:=qf.cells;exact bodyPost_ret (v:= .tuple #[.agg #[.string (str o),.int .i64 v.k,.int .i64 v.i,.string (str v.s),.string (str t),.string (str n),.slice (some ⟨g,off,none⟩) l.length c],.bool false]) (by simp[results,Tryz.results57,go_sem,a0,a1,a2,a3,a4,a5,a6]) rfl (nam_no HNO.out _ _ _ _ _ _ _ _ _ (HBd.out.trans (bf _ (by have:=HZ.out.1;omega))))
      ·have hke:k=l.length:=by omega
       have hkz:¬(k:Int) < (l.length:Int):=by omega
       subst hke;have hKK:=HK.out;rw[List.drop_length]at hKK;simp only[E.nokL]at hKK;have HOK:=Hi (hnok.trans hKK.symm);have ho:=HO.out;rw[List.take_length]at ho;obtain⟨ys,Ay,cy,rfl,hsy,hey⟩:=ho.got (fun k hk=>hk)
       obtain rfl:=hey rfl;have HSY:=Hi hsy;have Q1s:=Hi (set6 Q1.out (.slice Ay (E.nmdL l).length cy));obtain⟨Ws,hWs⟩:∃ Ws:World,Ws=wr.setCell ⟨w.heap.size,6,none⟩ (.slice Ay (E.nmdL l).length cy):=⟨_,rfl⟩;rw[←hWs]at Q1s;have hbs:Below w.heap.size wr Ws:=by rw[hWs];exact(Below.refl _ _).setCell (p:=⟨w.heap.size,6,none⟩) (Nat.le_refl _) _
       have hks:∀ j,j≠w.heap.size→Ws.heap[j]? = wr.heap[j]? := fun j hj=>by rw[hWs];exact Below.heap_setCell _ _ _ _ hj
       have Q2s:=Hi (Q2.out.same (hks W1.heap.size (by have:=HZ.out.1;omega)))
       have HBs:=Hi (HBw.out.trans hbs);have HKS:=Hi hks;have HWs:=Hi hWs;obtain⟨e0,e1,e2,e3,e4,e5,e6⟩:=Q1.out.cells;obtain⟨h0,h1,h2,h3,h4,h5,h6⟩:=Q1.out.free;obtain⟨u0,u1,u2,u3,u4,u5,u6⟩:=Q1s.out.cells;obtain⟨o0,o1,o2,o3,o4,o5,o6⟩:=Q2s.out.cells;obtain⟨m0,m1,m2,m3,m4,m5,m6⟩:=Q2s.out.free;clear HM HI HL HR HK hKK ho hsy hWs hbs hks HO
       go_wp2_with (rw[←HWs.out])
       obtain⟨Wf,hWf,qf,zf,kf,bf⟩:=stored7 Q2s.out (.string (str o)) (.int .i64 v.k) (.int .i64 v.i) (.string (str v.s)) (.string (str t)) (.string (str n)) (.slice Ay (E.nmdL l).length cy);rw[←hWf];obtain⟨a0,a1,a2,a3,a4,a5,a6⟩:=qf.cells;refine bodyPost_ret (v:= .tuple #[.agg #[.string (str o),.int .i64 v.k,.int .i64 v.i,.string (str v.s),.string (str t),.string (str n),.slice Ay (E.nmdL l).length cy],.bool true]) (by simp[results,Tryz.results57,go_sem,a0,a1,a2,a3,a4,a5,a6]) rfl ?_
       have hfin:Sub (fun b=>w.heap.size≤b) Wf (.mk o v t n (E.nmdL l)) Ay cy:=HSY.out.keep (fun j hj hlt=>⟨by have:=HBb.out.size;omega,(kf j (by have:=HS12.out.2;omega)).trans (HKS.out j (by have:=HS12.out.1;omega))⟩) (by rw[zf,HWs.out,size_setCell];exact Nat.le_refl _)
       exact nam_yes HOK.out hnm hfin (HBs.out.trans (bf _ (by have:=HZ.out.1;omega)))
    ·have hag:=HAG.out rfl
     have HIN':=HIN.out;rw[hag]at HIN';have HINF:=Hi (HIN' W2);clear HAG HIN HIN' hag;go_enter Tryz.func57,Tryz.ntmps57
     go_wp2_with (first | (rw[←HW2.out]) | (rw[←HW1.out]))
     refine(HINF.out).mono ?_;rintro e w3 ⟨rfl,b3⟩;have HQ1b:=Hi (HQ1.out.later b3);have HQ2b:=Hi (HQ2.out.later b3);have HBb:=Hi (bthen HB.out b3);clear b3 HINF x0 x1 x2 x3 x4 x5 x6 y0 y1 y2 y3 y4 y5 y6 f0 f1 f2 f3 f4 f5 f6;obtain⟨x0,x1,x2,x3,x4,x5,x6⟩:=HQ1b.out.cells;go_wp2_with fail;clear x0 x1 x2 x3 x4 x5 x6;have hz0:0 < w3.heap.size:=by have:=HQ1b.out.lt;omega
     have HZ0:=Hi hz0;have HS12:=Hi (⟨HQ1b.out.lt,HQ2b.out.lt⟩:w.heap.size < w3.heap.size∧W1.heap.size < w3.heap.size);clear hz0
     go_loopw [79,7] (fun iv lv wr=>∃ k:Nat,k≤l.length∧iv = .int .i64 k∧Hid (E.nokL W (l.drop k)=R)∧Hid (Below w3.heap.size w3 wr)∧Hid (OwnL wr w3.heap.size (fun j=>w3.heap.size≤j) (E.nmdL (l.take k)) false lv)) (fun iv _ _=>l.length - (intOf iv).toNat)
     case atStart=>exact⟨0,Nat.zero_le _,rfl,HR.out,Below.refl _ _,Hi (by rw[List.take_zero];exact ownL_nilE _ _ _)⟩
     case round =>
      obtain⟨k,hk,rfl,HK,HBr,HO⟩:=hrel;have Q1:=Hi (HQ1b.out.later HBr.out);have Q2:=Hi (HQ2b.out.later HBr.out);have HBw:=Hi (bthen HBb.out HBr.out)
      by_cases hlt:k < l.length
      ·obtain⟨g,off,hA,hS,hg,hl⟩:=HM.out (by omega)
       obtain⟨A',c',⟨g0,g1,g2,g3,g4,g5,g6⟩,hs⟩:=hl.get k hlt;have hkz:(k:Int) < (l.length:Int):=by omega
       subst hA;have i0:=(HBw.out.cell (p:=⟨g,off+k*7,none⟩) hg).trans g0;have i1:=(HBw.out.cell (p:=⟨g,off+k*7+1,none⟩) hg).trans g1;have i2:=(HBw.out.cell (p:=⟨g,off+k*7+2,none⟩) hg).trans g2;have i3:=(HBw.out.cell (p:=⟨g,off+k*7+3,none⟩) hg).trans g3;have i4:=(HBw.out.cell (p:=⟨g,off+k*7+4,none⟩) hg).trans g4;have i5:=(HBw.out.cell (p:=⟨g,off+k*7+5,none⟩) hg).trans g5;have i6:=(HBw.out.cell (p:=⟨g,off+k*7+6,none⟩) hg).trans g6;obtain⟨Wa,Wb,hWa,hWb,b1,b2,hz,hb1,hb2⟩:=made7 wr (.string (str l[k].op)) (.int .i64 l[k].v.k) (.int .i64 l[k].v.i) (.string (str l[k].v.s)) (.string (str l[k].tb)) (.string (str l[k].nm)) (.slice A' l[k].l.length c');have hf1:=b1.free;have hy1:=b2.cells;obtain⟨p10,p11,p12,p13,p14,p15,p16⟩:=b1.cells
       have hE:EAt S Wb l[k] (eVal l[k].op l[k].v l[k].tb l[k].nm (.slice A' l[k].l.length c')):=by
        have h0:EAt S w l[k] (eVal l[k].op l[k].v l[k].tb l[k].nm (.slice A' l[k].l.length c')):=⟨A',c',rfl,hs⟩;exact(h0.later HBw.out).later hb2
       have HC:=Hi (HI.out k hlt _ S Wb hE);have hKK:=HL.out k hlt;rw[HK.out]at hKK;have HTK:Hid (E.nmdL (l.take (k+1))=E.nmdL (l.take k) ++ [l[k].nmd]):=Hi (by rw[List.take_succ_eq_append_getElem hlt,nmdL_map,nmdL_map,List.map_append];rfl)
       have HBa:=Hi hb2;have HWa:=Hi hWa;have HWb:=Hi hWb;have HZb:=Hi hz;obtain⟨f10,f11,f12,f13,f14,f15,f16⟩:=hf1;obtain⟨y10,y11,y12,y13,y14,y15,y16⟩:=hy1;unfold eVal at HC;generalize str l[k].op=bo' at *;generalize str l[k].tb=bt' at *;generalize str l[k].nm=bn' at *;generalize str l[k].v.s=bs' at *;generalize l[k].v.k=vk' at *;generalize l[k].v.i=vi' at *;generalize l[k].l.length=ln' at *;generalize l[k]=ek at *;have HKK:=Hi hKK;clear hWa hWb hs hl hE g0 g1 g2 g3 g4 g5 g6 b1 b2 hb1 hb2 hz HI HM HK HR HL hKK
       go_wp2_with (first | (rw[←HWb.out]) | (rw[←HWa.out]))
       refine(HC.out).mono ?_;rintro r w4 ⟨b4,hcase⟩;have HB4:=Hi b4;have P1:=Hi (Q1.out.later (bthen HBa.out b4));have P2:=Hi (Q2.out.later (bthen HBa.out b4));clear b4 HC f10 f11 f12 f13 f14 f15 f16 y10 y11 y12 y13 y14 y15 y16 p10 p11 p12 p13 p14 p15 p16;rcases hcase with ⟨hk1,An,cn,rfl,hs4⟩ | ⟨hk0,s0,j1,j2,s3,s4,s5,An,nn,cn,rfl⟩
       ·obtain⟨Wc,Wd,hWc,hWd,b1,b2,hz,hb1,hb2⟩:=made7 w4 (.string (str ek.nmd.op)) (.int .i64 ek.nmd.v.k) (.int .i64 ek.nmd.v.i) (.string (str ek.nmd.v.s)) (.string (str ek.nmd.tb)) (.string (str ek.nmd.nm)) (.slice An ek.nmd.l.length cn)
        have hlk:(E.nmdL (l.take k)).length≤1000000:=by rw[nmdL_map,List.length_map,List.length_take];omega
        obtain⟨v6,w6,r6,HO6,HB6⟩:=app_nmd HZ0.out HBr.out HBa.out HB4.out hb2 HO.out hs4 hlk;rw[←HTK.out]at HO6;have hk3:=HKK.out;rw[hk1,Bool.true_and]at hk3;have HK3:=Hi hk3.symm;have hf1:=b1.free;have hy1:=b2.cells;obtain⟨p10,p11,p12,p13,p14,p15,p16⟩:=b1.cells;obtain⟨f10,f11,f12,f13,f14,f15,f16⟩:=hf1;obtain⟨y10,y11,y12,y13,y14,y15,y16⟩:=hy1;have HWc:=Hi hWc;have HWd:=Hi hWd;unfold eVal;generalize str ek.nmd.op=bo2 at *;generalize str ek.nmd.tb=bt2 at *;generalize str ek.nmd.nm=bn2 at *;generalize str ek.nmd.v.s=bs2 at *;generalize ek.nmd.v.k=vk2 at *;generalize ek.nmd.v.i=vi2 at *;generalize ek.nmd.l.length=ln2 at *;clear hWc hWd b1 b2 hb1 hb2 hz hs4 hlk hk3 hk1 HKK HTK HO HBr P1 P2 Q1 Q2 HBw
        go_wp2_with (first | (rw[←HWd.out]) | (rw[←HWc.out]) | (at_builtin;refine Lib.wpList_append_run_sl _ rfl _ _ 27 rfl _ _ rfl rfl r6 ?_))
        go_roundw
        case measure=>simp[intOf];omega
        case rel=>exact⟨k+1,by omega,by go_num,HK3.out,HB6.out,HO6⟩
       ·obtain⟨Wc,Wd,hWc,hWd,b1,b2,hz,hb1,hb2⟩:=made7 w4 (.string s0) (.int .i64 j1) (.int .i64 j2) (.string s3) (.string s4) (.string s5) (.slice An nn cn)
        have hk3:=HKK.out;rw[hk0,Bool.false_and]at hk3;have HNO:=Hi (hnok.trans hk3);have P1d:=Hi (P1.out.later hb2);have P2d:=Hi (P2.out.later hb2);have HBd:=Hi (bthen HBw.out (bthen HBa.out (bthen HB4.out hb2)));have HWc:=Hi hWc;have HWd:=Hi hWd;obtain⟨p10,p11,p12,p13,p14,p15,p16⟩:=b1.cells;obtain⟨f10,f11,f12,f13,f14,f15,f16⟩:=b1.free;obtain⟨u0,u1,u2,u3,u4,u5,u6⟩:=P1d.out.cells;obtain⟨o0,o1,o2,o3,o4,o5,o6⟩:=P2d.out.cells;obtain⟨m0,m1,m2,m3,m4,m5,m6⟩:=P2d.out.free;clear hWc hWd b1 b2 hb1 hb2 hz hk3 hk0 HKK HTK HO HBr P1 P2 Q1 Q2 HBw
        go_wp2_with (first | (rw[←HWd.out]) | (rw[←HWc.out]))
        obtain⟨Wf,hWf,qf,zf,kf,bf⟩:=stored7 P2d.out (.string (str o)) (.int .i64 v.k) (.int .i64 v.i) (.string (str v.s)) (.string (str t)) (.string (str n)) (.slice (some ⟨g,off,none⟩) l.length c);rw[←hWf];obtain⟨a0,a1,a2,a3,a4,a5,a6⟩:=qf.cells;exact bodyPost_ret (v:= .tuple #[.agg #[.string (str o),.int .i64 v.k,.int .i64 v.i,.string (str v.s),.string (str t),.string (str n),.slice (some ⟨g,off,none⟩) l.length c],.bool false]) (by simp[results,Tryz.results57,go_sem,a0,a1,a2,a3,a4,a5,a6]) rfl (nam_no HNO.out _ _ _ _ _ _ _ _ _ (HBd.out.trans (bf _ (by have:=HZ.out.1;omega))))
      ·have hke:k=l.length:=by omega
       have hkz:¬(k:Int) < (l.length:Int):=by omega
       subst hke;have hKK:=HK.out;rw[List.drop_length]at hKK;simp only[E.nokL]at hKK;have HOK:=Hi (hnok.trans hKK.symm);have ho:=HO.out;rw[List.take_length]at ho;obtain⟨ys,Ay,cy,rfl,hsy,hey⟩:=ho.got (fun k hk=>hk)
       obtain rfl:=hey rfl;have HSY:=Hi hsy;have Q1s:=Hi (set6 Q1.out (.slice Ay (E.nmdL l).length cy));obtain⟨Ws,hWs⟩:∃ Ws:World,Ws=wr.setCell ⟨w.heap.size,6,none⟩ (.slice Ay (E.nmdL l).length cy):=⟨_,rfl⟩;rw[←hWs]at Q1s;have hbs:Below w.heap.size wr Ws:=by rw[hWs];exact(Below.refl _ _).setCell (p:=⟨w.heap.size,6,none⟩) (Nat.le_refl _) _
       have hks:∀ j,j≠w.heap.size→Ws.heap[j]? = wr.heap[j]? := fun j hj=>by rw[hWs];exact Below.heap_setCell _ _ _ _ hj
       have Q2s:=Hi (Q2.out.same (hks W1.heap.size (by have:=HZ.out.1;omega)))
       have HBs:=Hi (HBw.out.trans hbs);have HKS:=Hi hks;have HWs:=Hi hWs;obtain⟨e0,e1,e2,e3,e4,e5,e6⟩:=Q1.out.cells;obtain⟨h0,h1,h2,h3,h4,h5,h6⟩:=Q1.out.free;obtain⟨u0,u1,u2,u3,u4,u5,u6⟩:=Q1s.out.cells;obtain⟨o0,o1,o2,o3,o4,o5,o6⟩:=Q2s.out.cells;obtain⟨m0,m1,m2,m3,m4,m5,m6⟩:=Q2s.out.free;clear HM HI HL HR HK hKK ho hsy hWs hbs hks HO
       go_wp2_with (rw[←HWs.out])
       obtain⟨Wf,hWf,qf,zf,kf,bf⟩:=stored7 Q2s.out (.string (str o)) (.int .i64 v.k) (.int .i64 v.i) (.string (str v.s)) (.string (str t)) (.string (str n)) (.slice Ay (E.nmdL l).length cy);rw[←hWf];obtain⟨a0,a1,a2,a3,a4,a5,a6⟩:=qf.cells;refine bodyPost_ret (v:= .tuple #[.agg #[.string (str o),.int .i64 v.k,.int .i64 v.i,.string (str v.s),.string (str t),.string (str n),.slice Ay (E.nmdL l).length cy],.bool true]) (by simp[results,Tryz.results57,go_sem,a0,a1,a2,a3,a4,a5,a6]) rfl ?_
       have hfin:Sub (fun b=>w.heap.size≤b) Wf (.mk o v t n (E.nmdL l)) Ay cy:=HSY.out.keep (fun j hj hlt=>⟨by have:=HBb.out.size;omega,(kf j (by have:=HS12.out.2;omega)).trans (HKS.out j (by have:=HS12.out.1;omega))⟩) (by rw[zf,HWs.out,size_setCell];exact Nat.le_refl _)
       exact nam_yes HOK.out hnm hfin (HBs.out.trans (bf _ (by have:=HZ.out.1;omega)))
end Go.Proofs.YtcicpjgnpcnnmaaGreatDoor
