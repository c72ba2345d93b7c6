import Derived.Test.YtcicpjgnpcnnmaaGreatDoorQ69
import Derived.Test.YtcicpjgnpcnnmaaGreatDoorQ32
set_option maxRecDepth 100000
set_option maxHeartbeats 4000000
set_option linter.unusedSimpArgs false
set_option linter.unusedVariables false
namespace Go.Proofs.YtcicpjgnpcnnmaaGreatDoor
open Go.RowKit
open SC (HV VBox zero_box Args)
theorem rtruth_e(r:List BV.V)(hr5:r.length≤100000)(e:E)(x:Value)(S:Nat→Prop)(w:World)(A:Option Addr)(c:Nat)(hx:EAt S w e x)(hr:BV.RowAt w w.heap.size A r)(hf:e.fit deedP r)(hg:e.good r.length=true)(hz:e.size≤900) :
  Calls Tryz.prog 15 #[x,.slice A r.length c] w fun q w'=>q = .returned (.tuple #[.bool (truP e r).2,.int .i64 (truP e r).1])∧Below w.heap.size w w':=by
 obtain⟨A1,c1,rfl,hs⟩:=hx;obtain⟨W1,hW1,q1,z1,r1⟩:=box7 w (.string (str e.op)) (.int .i64 e.v.k) (.int .i64 e.v.i) (.string (str e.v.s)) (.string (str e.tb)) (.string (str e.nm)) (.slice A1 e.l.length c1);obtain⟨a0,a1,a2,a3,a4,a5,a6⟩:=q1.cells;have HW1:=Hi hW1;have HB:=Hi r1;have CE:=Hi (rEval_any r hr5 e hg hz _ S W1 A c ⟨A1,c1,rfl,sub_later hs r1⟩ (hr.later r1) hf);obtain⟨an,han⟩:∃ an,e.ev deedP r=an:=⟨_,rfl⟩;have ht:truP e r=if an.1=0 then (if an.2.k=1∨an.2.k=0 then (0,LG.isV an.2 true)else (20,false))else (an.1,false):=by rw[←han];rfl
 rw[han]at CE;rw[ht];clear ht han hs hr hf hg hz hW1 q1 z1 r1;obtain⟨er,v⟩:=an;unfold VR at CE;unfold eVal at CE ⊢;dsimp only at CE ⊢
 by_cases h0:er=0
 ·subst h0
  rw[if_pos rfl]
  by_cases hk:v.k=1∨v.k=0
  ·rw[if_pos hk]
   rcases hk with hk | hk
   ·go_enter Tryz.func15,Tryz.ntmps15
    go_wp2_with (rw[←HW1.out])
    refine(CE.out).mono ?_;rintro q w2 ⟨rfl,b2⟩;obtain⟨W3,hW3⟩:∃ W3:World,W3=w2.alloc (.cells #[.int .i64 v.k,.int .i64 v.i,.string v.s] 26):=⟨_,rfl⟩;have hb3:Below w2.heap.size w2 W3:=by rw[hW3];exact bel_allocE (Below.refl _ _) _
    have V3:VBox W3 w2.heap.size v:=by rw[hW3];exact vnewT w2 v
    have B3:=Hi (bthen HB.out (bthen b2 hb3));obtain⟨c0,c1',c2⟩:=V3.cells;have HH:=Hi (LG.rholds_any v W3);have HW3:=Hi hW3;clear V3 hb3 b2 hW3 a0 a1 a2 a3 a4 a5 a6 CE;rw[hk]at c0 HH HW3
    go_wp2_with (rw[←HW3.out])
    refine(HH.out).mono ?_;rintro q w4 ⟨rfl,b4⟩;go_wp2_with fail
    go_ret2
    exact⟨rfl,bthen B3.out b4⟩
   ·go_enter Tryz.func15,Tryz.ntmps15
    go_wp2_with (rw[←HW1.out])
    refine(CE.out).mono ?_;rintro q w2 ⟨rfl,b2⟩;obtain⟨W3,hW3⟩:∃ W3:World,W3=w2.alloc (.cells #[.int .i64 v.k,.int .i64 v.i,.string v.s] 26):=⟨_,rfl⟩;have hb3:Below w2.heap.size w2 W3:=by rw[hW3];exact bel_allocE (Below.refl _ _) _
    have V3:VBox W3 w2.heap.size v:=by rw[hW3];exact vnewT w2 v
    have B3:=Hi (bthen HB.out (bthen b2 hb3));obtain⟨c0,c1',c2⟩:=V3.cells;have HH:=Hi (LG.rholds_any v W3);have HW3:=Hi hW3;clear V3 hb3 b2 hW3 a0 a1 a2 a3 a4 a5 a6 CE;rw[hk]at c0 HH HW3
    go_wp2_with (rw[←HW3.out])
    refine(HH.out).mono ?_;rintro q w4 ⟨rfl,b4⟩;go_wp2_with fail
    go_ret2
    exact⟨rfl,bthen B3.out b4⟩
  ·rw[if_neg hk]
   have hk1:(v.k != 1)=true:=by simp;omega
   have hk0:(v.k != 0)=true:=by simp;omega
   have hn1:¬v.k=1:=by omega
   have hn0:¬v.k=0:=by omega
   clear hk;go_enter Tryz.func15,Tryz.ntmps15
   go_wp2_with (rw[←HW1.out])
   refine(CE.out).mono ?_;rintro q w2 ⟨rfl,b2⟩;obtain⟨W3,hW3⟩:∃ W3:World,W3=w2.alloc (.cells #[.int .i64 v.k,.int .i64 v.i,.string v.s] 26):=⟨_,rfl⟩;have hb3:Below w2.heap.size w2 W3:=by rw[hW3];exact bel_allocE (Below.refl _ _) _
   have V3:VBox W3 w2.heap.size v:=by rw[hW3];exact vnewT w2 v
   have B3:=Hi (bthen HB.out (bthen b2 hb3));obtain⟨c0,c1',c2⟩:=V3.cells;have HH:=Hi (LG.rholds_any v W3);have HW3:=Hi hW3;clear V3 hb3 b2 hW3 a0 a1 a2 a3 a4 a5 a6 CE
   go_wp2_with (rw[←HW3.out])
   go_ret2
   exact⟨rfl,B3.out⟩
 ·rw[if_neg h0]
  have hne:(er != 0)=true:=by simpa using h0
  go_enter Tryz.func15,Tryz.ntmps15
  go_wp2_with (rw[←HW1.out])
  refine(CE.out).mono ?_;rintro q w2 ⟨rfl,b2⟩;obtain⟨W3,hW3⟩:∃ W3:World,W3=w2.alloc (.cells #[.int .i64 v.k,.int .i64 v.i,.string v.s] 26):=⟨_,rfl⟩;have hb3:Below w2.heap.size w2 W3:=by rw[hW3];exact bel_allocE (Below.refl _ _) _
  have V3:VBox W3 w2.heap.size v:=by rw[hW3];exact vnewT w2 v
  have B3:=Hi (bthen HB.out (bthen b2 hb3));obtain⟨c0,c1',c2⟩:=V3.cells;have HH:=Hi (LG.rholds_any v W3);have HW3:=Hi hW3;clear V3 hb3 b2 hW3 a0 a1 a2 a3 a4 a5 a6 CE
  go_wp2_with (rw[←HW3.out])
  go_ret2
  exact⟨rfl,B3.out⟩
end Go.Proofs.YtcicpjgnpcnnmaaGreatDoor
namespace Go.Proofs.YtcicpjgnpcnnmaaGreatDoor
open Go.RowKit
section
variable {w wr w' : World} {g : Nat} {c0 c1 c2 c3 c4 c5 c6 : Value} {o : Value} {l : List BV.R}
end
open SC (VBox)
end Go.Proofs.YtcicpjgnpcnnmaaGreatDoor
