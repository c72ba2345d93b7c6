import Derived.Test.YtcicpjgnpcnnmaaGreatDoorQ69
import Derived.Test.YtcicpjgnpcnnmaaGreatDoorQ32
set_option linter.unusedSimpArgs false
set_option linter.unusedVariables false
set_option maxRecDepth 100000
set_option maxHeartbeats 8000000
namespace Go.Proofs.YtcicpjgnpcnnmaaGreatDoor
open Go.RowKit
open SC (HV VBox zero_box Args)
theorem rtruth_e(r:List BV.V)(hr5:r.length≤100000)(e:E)(x:Value)(S:Nat→Prop)(w:World)(A:Option Addr)(c:Nat)(hx:EAt S w e x)(hr:BV.RowAt w w.heap.size A r)(hf:e.fit deedP r)(hg:e.good r.length=true)(hz:e.size≤900) :
  Calls Tryz.prog 15 #[x,.slice A r.length c] w fun q w'=>q = .returned (.tuple #[.bool (truP e r).2,.int .i64 (truP e r).1])∧Below w.heap.size w w':=by
 obtain⟨A1,c1,rfl,hs⟩:=hx;obtain⟨W1,hW1,q1,z1,r1⟩:=box7 w (.string (str e.op)) (.int .i64 e.v.k) (.int .i64 e.v.i) (.string (str e.v.s)) (.string (str e.tb)) (.string (str e.nm)) (.slice A1 e.l.length c1);obtain⟨a0,a1,a2,a3,a4,a5,a6⟩:=q1.cells;have HW1:=Hi hW1;have HB:=Hi r1;have CE:=Hi (rEval_any r hr5 e hg hz _ S W1 A c ⟨A1,c1,rfl,sub_later hs r1⟩ (hr.later r1) hf);obtain⟨an,han⟩:∃ an,e.ev deedP r=an:=⟨_,rfl⟩;have ht:truP e r=if an.1=0 then (if an.2.k=1∨an.2.k=0 then (0,LG.isV an.2 true)else (20,false))else (an.1,false):=by rw[←han];rfl
 rw[han]at CE;rw[ht];clear ht han hs hr hf hg hz hW1 q1 z1 r1;obtain⟨er,v⟩:=an;unfold VR at CE;unfold eVal at CE ⊢;dsimp only at CE ⊢
 by_cases h0:er=0
 ·subst h0
  rw[if_pos rfl]
  by_cases hk:v.k=1∨v.k=0
  ·rw[if_pos hk]
   rcases hk with hk | hk
   ·go_enter Tryz.func15,Tryz.ntmps15
    go_wp2_with (rw[←HW1.out])
    refine(CE.out).mono ?_;rintro q w2 ⟨rfl,b2⟩;obtain⟨W3,hW3⟩:∃ W3:World,W3=w2.alloc (.cells #[.int .i64 v.k,.int .i64 v.i,.string v.s] 26):=⟨_,rfl⟩;have hb3:Below w2.heap.size w2 W3:=by rw[hW3];exact bel_allocE (Below.refl _ _) _
    have V3:VBox W3 w2.heap.size v:=by rw[hW3];exact vnewT w2 v
    have B3:=Hi (bthen HB.out (bthen b2 hb3));obtain⟨c0,c1',c2⟩:=V3.cells;have HH:=Hi (LG.rholds_any v W3);have HW3:=Hi hW3;clear V3 hb3 b2 hW3 a0 a1 a2 a3 a4 a5 a6 CE;rw[hk]at c0 HH HW3
    go_wp2_with (rw[←HW3.out])
    refine(HH.out).mono ?_;rintro q w4 ⟨rfl,b4⟩;go_wp2_with fail
    go_ret2
    exact⟨rfl,bthen B3.out b4⟩
   ·go_enter Tryz.func15,Tryz.ntmps15
    go_wp2_with (rw[←HW1.out])
    refine(CE.out).mono ?_;rintro q w2 ⟨rfl,b2⟩;obtain⟨W3,hW3⟩:∃ W3:World,W3=w2.alloc (.cells #[.int .i64 v.k,.int .i64 v.i,.string v.s] 26):=⟨_,rfl⟩;have hb3:Below w2.heap.size w2 W3:=by rw[hW3];exact bel_allocE (Below.refl _ _) _
    have V3:VBox W3 w2.heap.size v:=by rw[hW3];exact vnewT w2 v
    have B3:=Hi (bthen HB.out (bthen b2 hb3));obtain⟨c0,c1',c2⟩:=V3.cells;have HH:=Hi (LG.rholds_any v W3);have HW3:=Hi hW3;clear V3 hb3 b2 hW3 a0 a1 a2 a3 a4 a5 a6 CE;rw[hk]at c0 HH HW3
    go_wp2_with (rw[←HW3.out])
    refine(HH.out).mono ?_;rintro q w4 ⟨rfl,b4⟩;go_wp2_with fail
    go_ret2
    exact⟨rfl,bthen B3.out b4⟩
  ·rw[if_neg hk]
   have hk1:(v.k != 1)=true:=by simp;omega
   have hk0:(v.k != 0)=true:=by simp;omega
   have hn1:¬v.k=1:=by omega
   have hn0:¬v.k=0:=by omega
   clear hk;go_enter Tryz.func15,Tryz.ntmps15
   go_wp2_with (rw[←HW1.out])
   refine(CE.out).mono ?_;rintro q w2 ⟨rfl,b2⟩;obtain⟨W3,hW3⟩:∃ W3:World,W3=w2.alloc (.cells #[.int .i64 v.k,.int .i64 v.i,.string v.s] 26):=⟨_,rfl⟩;have hb3:Below w2.heap.size w2 W3:=by rw[hW3];exact bel_allocE (Below.refl _ _) _
   have V3:VBox W3 w2.heap.size v:=by rw[hW3];exact vnewT w2 v
   have B3:=Hi (bthen HB.out (bthen b2 hb3));obtain⟨c0,c1',c2⟩:=V3.cells;have HH:=Hi (LG.rholds_any v W3);have HW3:=Hi hW3;clear V3 hb3 b2 hW3 a0 a1 a2 a3 a4 a5 a6 CE
   go_wp2_with (rw[←HW3.out])
   go_ret2
   exact⟨rfl,B3.out⟩
 ·rw[if_neg h0]
  have hne:(er != 0)=true:=by simpa using h0
  go_enter Tryz.func15,Tryz.ntmps15
  go_wp2_with (rw[←HW1.out])
  refine(CE.out).mono ?_;rintro q w2 ⟨rfl,b2⟩;obtain⟨W3,hW3⟩:∃ W3:World,W3=w2.alloc (.cells #[.int .i64 v.k,.int .i64 v.i,.string v.s] 26):=⟨_,rfl⟩;have hb3:Below w2.heap.size w2 W3:=by rw[hW3];exact bel_allocE (Below.refl _ _) _
  have V3:VBox W3 w2.heap.size v:=by rw[hW3];exact vnewT w2 v
  have B3:=Hi (bthen HB.out (bthen b2 hb3));obtain⟨c0,c1',c2⟩:=V3.cells;have HH:=Hi (LG.rholds_any v W3);have HW3:=Hi hW3;clear V3 hb3 b2 hW3 a0 a1 a2 a3 a4 a5 a6 CE
  go_wp2_with (rw[←HW3.out])
  go_ret2
  exact⟨rfl,B3.out⟩
end Go.Proofs.YtcicpjgnpcnnmaaGreatDoor
namespace Go.Proofs.YtcicpjgnpcnnmaaGreatDoor
open Go.RowKit
def OwnI(w:World)(B:Nat)(v:Value)(rs:List BV.R):Prop:=w.ownsRow B 39 1 v rs.length (rs.map BV.R.val)
theorem OwnI.nil(w:World)(B:Nat):OwnI w B (.slice none 0 0) []:=World.ownsRow_nil w B 39 1
theorem OwnI.later{w w':World}{B:Nat}{v:Value}{rs:List BV.R}(h:OwnI w B v rs)(hb:Below w.heap.size w w'):OwnI w' B v rs :=
 World.ownsRow.kept (row:=none) h ⟨hb.os,hb.tape,hb.output,hb.size,fun k hk _=>hb.block k hk⟩ (by cases v.ownBlock <;> simp)
theorem ownI_app{w:World}{B:Nat}{v:Value}{rs:List BV.R}(h:OwnI w B v rs)(A:Option Addr)(c:Nat)(xs:List BV.V)(hB:B≤w.heap.size)(hm:rs.length≤1000000) :
  ∃ v' w',(Builtin.append_ #[22,22] 22 #[v,.slice (some ⟨w.heap.size,0,none⟩) 1 1]).run Tryz.prog (w.alloc (.cells #[.slice A xs.length c] 39)) = .ok v' w'∧OwnI w' B v' (rs ++ [⟨A,c,xs⟩])∧(w.alloc (.cells #[.slice A xs.length c] 39)).grownBy w' v.ownBlock:=by
 obtain⟨i0,hi,hz0,hz1,hz2⟩:=infoRp;obtain⟨v',w',h1,h2,h3,-,h5⟩:=run_append_own_at (P:=Tryz.prog) (w.alloc (.cells #[.slice A xs.length c] 39)) B 22 22 39 i0 (.slice none 0 0) 1 24 Tryz.underlying22 hi hz0 hz1 hz2 rfl (by decide) v rs.length (rs.map BV.R.val) (World.ownsRow.alloc h _) ⟨w.heap.size,0,none⟩ 1 1 [.slice A xs.length c] rfl (World.news_of_block (heap_alloc_new w _)) (by intro u hu;simp at hu;subst hu;rfl) (by unfold maxLen;omega) (by omega) (by simp;omega)
 refine⟨v',w',h1,?_,h3⟩;unfold OwnI;rw[List.length_append,List.map_append];exact h2
theorem OwnI.la{w0 w:World}{B:Nat}{v:Value}{rs:List BV.R}(h:OwnI w B v rs)(hb:Below w0.heap.size w0 w)(hr:∀ r∈rs,BV.RowAt w0 w0.heap.size r.A r.xs∧r.xs.length≤r.c):∃ A c,v = .slice A (rs.map BV.R.xs).length c∧LA w A (rs.map BV.R.xs).length c (rs.map BV.R.xs):=by
 rw[List.length_map];exact la_vals h rfl (fun r hr'=>(hr r hr').1.later hb) fun r hr'=>(hr r hr').2
structure FI(w wr:World)(g:Nat)(c0 c1 c2 c3 c4 c5 c6:Value)(o:Value)(l:List BV.R):Prop where
 own:OwnI wr (g+1) o l
 box:B7 wr g c0 c1 c2 c3 c4 c5 c6
 bel:Below w.heap.size w wr
 wg:w.heap.size≤g
section
variable {w wr w' : World} {g : Nat} {c0 c1 c2 c3 c4 c5 c6 : Value} {o : Value} {l : List BV.R}
theorem FI.later(h:FI w wr g c0 c1 c2 c3 c4 c5 c6 o l)(hb:Below wr.heap.size wr w'):FI w w' g c0 c1 c2 c3 c4 c5 c6 o l :=
 ⟨h.own.later hb,h.box.later hb,bthen h.bel hb,h.wg⟩
theorem FI.app(h:FI w wr g c0 c1 c2 c3 c4 c5 c6 o l)(A:Option Addr)(c:Nat)(xs:List BV.V)(hm:l.length≤1000000) :
  ∃ v' w',(Builtin.append_ #[22,22] 22 #[o,.slice (some ⟨wr.heap.size,0,none⟩) 1 1]).run Tryz.prog (wr.alloc (.cells #[.slice A xs.length c] 39)) = .ok v' w'∧Hid (FI w w' g c0 c1 c2 c3 c4 c5 c6 v' (l ++ [⟨A,c,xs⟩])):=by
 have hlt:=h.box.lt;obtain⟨v',w',h1,h2,h3⟩:=ownI_app h.own A c xs (by omega) hm
 have ha:=(Below.refl wr.heap.size wr).alloc (Nat.le_refl _) (.cells #[.slice A xs.length c] 39);have hk:=fun k hk=>World.ownsRow.lt h.own k hk
 have hblk:w'.heap[g]? = wr.heap[g]? := by
  rw[h3.block g (by simp;omega) (fun e=>by have:=(hk g e.symm).1;omega)]
  exact ha.block g (by omega)
 exact⟨v',w',h1,Hi ⟨h2,h.box.same hblk,(h.bel.alloc h.bel.size _).grown h3 (by have:=h.bel.size;simp;omega) (fun k hk'=>by have:=(hk k hk').1;have:=h.wg;omega),h.wg⟩⟩
end
def AskI(w:World)(xv:Value)(t:List BV.V→Int×Bool)(l:List (List BV.V)):Prop:=∀ r∈l,∀ W A c,Below w.heap.size w W→BV.RowAt W W.heap.size A r→Calls Tryz.prog 15 #[xv,.slice A r.length c] W fun q w'=>q = .returned (.tuple #[.bool (t r).2,.int .i64 (t r).1])∧Below W.heap.size W w'
def filtI(t:List BV.V→Int×Bool)(rs:List BV.R):List BV.R:=rs.filter fun r=>(t r.xs).2
theorem filtI_xs(t:List BV.V→Int×Bool)(rs:List BV.R):(filtI t rs).map BV.R.xs=filtP t (rs.map BV.R.xs):=by
 unfold filtI filtP;rw[List.filter_map]
 rfl
theorem filtI_next{t:List BV.V→Int×Bool}{l:List BV.R}{k:Nat}(hk:k < l.length):filtI t (l.take (k+1))=filtI t (l.take k)++if(t l[k].xs).2 then [l[k]]else []:=by
 unfold filtI;rw[take_next hk,List.filter_append]
 congr 1
 cases h:(t l[k].xs).2 <;> simp[h]
theorem rfilter_any(rs:List BV.R)(A:Option Addr)(ca:Nat)(s0:ByteArray)(i1 i2:Int)(s3 s4 s5:ByteArray)(v6:Value)(t:List BV.V→Int×Bool)(w:World)
  (ha:BV.RowsAt w w.heap.size A rs)(hla:rs.length≤100000)(hwa:∀ r∈rs,r.xs.length≤100000)
  (hca:∀ r∈rs,r.xs.length≤r.c)
  (hask:AskI w (.agg #[.string s0,.int .i64 i1,.int .i64 i2,.string s3,.string s4,.string s5,v6]) t (rs.map BV.R.xs)) :
  Calls Tryz.prog 11 #[.slice A rs.length ca,.agg #[.string s0,.int .i64 i1,.int .i64 i2,.string s3,.string s4,.string s5,v6]] w (ToldR w (errsP t (rs.map BV.R.xs)) (FRes t (rs.map BV.R.xs))):=by
 obtain⟨n,hn⟩:∃ n,n=rs.length:=⟨_,rfl⟩;obtain⟨a,haa⟩:∃ a,rs.map BV.R.xs=a:=⟨_,rfl⟩;have hlA:a.length=n:=by rw[←haa,List.length_map,hn]
 have HA:Hid (∀ k (h:k < n),∃ h':k < rs.length,∃ h'':k < a.length,rs[k].xs=a[k]):=Hi fun k h=>⟨by omega,by omega,by subst haa;simp⟩
 rw[haa]at hask ⊢;rw[←hn]at hla ⊢;have HLA:=Hi hlA;have RA:=Hi ha;have WA:=Hi hwa;have HASK:=Hi hask
 have HE:Hid (∀ k (hk:k < a.length),(∀ r∈a.take k,(t r).1=0)→¬(t a[k]).1=0→errsP t a=(t a[k]).1∧FRes t a = []):=Hi fun k hk h1 h3=>by
  have h:=errs_here hk h1 h3;exact⟨h,by unfold FRes;rw[h,if_neg h3]⟩
 have HLL:Hid (∀ W o,OwnI W (w.heap.size+1) o (filtI t (rs.take n))→Below w.heap.size w W→∃ A c,o = .slice A (filtP t a).length c∧LA W A (filtP t a).length c (filtP t a)):=Hi fun W o ho hb=>by
  rw[←haa,←filtI_xs];rw[hn,List.take_length]at ho;exact ho.la hb fun r hr=>⟨ha.2 r (List.mem_filter.1 hr).1,hca r (List.mem_filter.1 hr).1⟩
 have HZ:Hid ((∀ r∈a.take n,(t r).1=0)→errsP t a=0∧FRes t a=filtP t a):=Hi fun h=>by
  rw[←hlA,List.take_length]at h;have h0:=errs_zero.2 h;exact⟨h0,by unfold FRes;rw[h0,if_pos rfl]⟩
 generalize errsP t a=ER at *;generalize FRes t a=JR at *;obtain⟨W1,hW1,q1,z1,r1⟩:=box7 w (.string s0) (.int .i64 i1) (.int .i64 i2) (.string s3) (.string s4) (.string s5) v6;have HW1:=Hi hW1;have J1:Hid (FI w W1 w.heap.size (.string s0) (.int .i64 i1) (.int .i64 i2) (.string s3) (.string s4) (.string s5) v6 (.slice none 0 0) (filtI t (rs.take 0))):=Hi ⟨by simpa [filtI]using OwnI.nil W1 (w.heap.size+1),q1,r1,Nat.le_refl _⟩
 clear ha hwa hask haa hn hlA hW1 q1 r1 z1 hca;go_enter Tryz.func11,Tryz.ntmps11
 go_wp2_with (rw[←HW1.out])
 go_loopw [13,6] (fun i ov wr=>∃ (k:Nat) (o:Value),o=ov∧k≤n∧i = .int .i64 k∧Hid (FI w wr w.heap.size (.string s0) (.int .i64 i1) (.int .i64 i2) (.string s3) (.string s4) (.string s5) v6 o (filtI t (rs.take k)))∧Hid (∀ r∈a.take k,(t r).1=0)) (fun i _ _=>n - (intOf i).toNat)
 case atStart=>exact⟨0,_,rfl,Nat.zero_le _,rfl,J1,Hi (by simp)⟩
 case round =>
  obtain⟨k,o,rfl,hk,rfl,JK,NE⟩:=hrel
  by_cases hlt:k < n
  ·obtain⟨hkx,hka,hkk⟩:=HA.out k hlt
   obtain⟨ba,offa,hAa,hbla,hca⟩:=RA.out.1 (by omega)
   subst hAa;have e1:=(JK.out.bel.cell (p:=⟨ba,_,none⟩) hbla).trans (hca k hkx);unfold BV.R.val at e1;have HX1:=Hi (fun W (hb:Below w.heap.size w W)=>(RA.out.2 rs[k] (List.getElem_mem hkx)).later hb)
   have HX2:=Hi (WA.out rs[k] (List.getElem_mem hkx));have HER:=Hi (fun h3=>HE.out k hka NE.out h3)
   have HNX:=Hi (@filtI_next t rs k hkx);have HTN:=Hi (take_next hka)
   have HFL:Hid ((filtI t (rs.take k)).length≤100000):=Hi (by
    have h1:=List.length_filter_le (fun r:BV.R=>(t r.xs).2) (rs.take k)
    rw[List.length_take]at h1;unfold filtI
    omega)
   have HRK:Hid (rs[k]=⟨rs[k].A,rs[k].c,a[k]⟩):=Hi (by rw[←hkk])
   rw[hkk]at HX1 HX2 e1;rw[hkk,HRK.out]at HNX;have HCT:=Hi (HASK.out a[k] (List.getElem_mem hka) wr rs[k].A rs[k].c JK.out.bel (HX1.out wr JK.out.bel));generalize rs[k].A=xA at *;generalize rs[k].c=xc at *;generalize a[k]=x at *;generalize hrr:t x=tr at *;have HRR:=Hi hrr;obtain⟨p0,p1,p2,p3,p4,p5,p6⟩:=JK.out.box.cells;clear hca hkk hrr;go_wp2_with fail;refine(HCT.out).mono ?_;rintro q w4 ⟨rfl,b4⟩;have J4:=Hi (JK.out.later b4);clear b4 HCT JK p0 p1 p2 p3 p4 p5 p6 e1
   by_cases her:tr.1=0
   ·have NE':Hid (∀ r∈a.take (k+1),(t r).1=0):=by
     rw[HTN.out];refine Hi fun r hr => ?_
     rcases List.mem_append.1 hr with h | h
     ·exact NE.out r h
     ·rw[List.mem_singleton]at h
      rw[h,HRR.out];exact her
    rw[her];have hnx:=HNX.out;cases htt:tr.2
    ·rw[htt,if_neg (by decide),List.append_nil]at hnx
     rw[←hnx]at J4;clear hnx her htt HRR HER HNX;go_wp2_with fail
     go_roundw
     case rel=>exact⟨k+1,_,rfl,by omega,by go_num,J4,NE'⟩
     case measure=>simp[intOf];omega
    ·rw[htt,if_pos rfl]at hnx
     have HN:=Hi hnx;obtain⟨lx,hlx⟩:∃ lx,x.length=lx:=⟨_,rfl⟩;obtain⟨v6',w6,hrun,J6⟩:=J4.out.app xA xc x (Nat.le_trans HFL.out (by decide))
     rw[←HN.out]at J6;rw[hlx]at hrun;simp only[hlx];clear hlx hnx her htt HRR HER HNX J4
     go_wp2_with (at_builtin;refine Lib.wpList_append_run_sl _ rfl _ _ 22 rfl _ _ rfl rfl hrun ?_)
     go_roundw
     case rel=>exact⟨k+1,_,rfl,by omega,by go_num,J6,NE'⟩
     case measure=>simp[intOf];omega
   ·have her':(tr.1 != 0)=true:=by simpa using her
    obtain⟨h1,h2⟩:=HER.out her;have HFIN:Hid (ToldR w ER JR (.returned (.tuple #[.slice none 0 0,.int .i64 tr.1])) w4):=Hi ⟨none,0,by rw[h1,h2];rfl,Hi (by rw[h2];exact LA.nil _ _ _),Hi J4.out.bel⟩
    generalize tr.1=er at *;clear h1 h2 HER HRR;go_wp2_with fail
    go_ret2
    exact HFIN.out
  ·obtain rfl:k=n:=by omega
   obtain⟨h1,h2⟩:=HZ.out NE.out;obtain⟨A9,c9,ho9,hla9⟩:=HLL.out _ _ JK.out.own JK.out.bel;rw[←h2]at ho9 hla9;have HFIN:Hid (ToldR w ER JR (.returned (.tuple #[o,.int .i64 0])) wr):=Hi ⟨A9,c9,by rw[h1,ho9],Hi hla9,Hi JK.out.bel⟩
   clear h1 h2 ho9 hla9 HLL;go_wp2_with fail
   go_ret2
   exact HFIN.out
open SC (VBox)
theorem ownV_one{w:World}{B:Nat}{v:Value}{xs:List BV.V}(t:TypeId)(ht:Tryz.prog.underlying t=some (.slice 26))(h:OwnV w B v xs)(x:BV.V)(hm:xs.length≤100000)(hB:B≤w.heap.size) :
  ∃ v' w',(Builtin.append_ #[t,t] t #[v,.slice (some ⟨w.heap.size,0,none⟩) 1 1]).run Tryz.prog (w.alloc (.cells #[.int .i64 x.k,.int .i64 x.i,.string x.s] 26)) = .ok v' w'∧Hid (OwnV w' B v' (xs ++ [x]))∧Hid (∀ w0,Below w0.heap.size w0 w→w0.heap.size≤B→Below w0.heap.size w0 w'):=by
 obtain⟨v',w',h1,h2,h3,-⟩:=ownV_app t t ht (h.alloc _) [x] _ 1 (row1 w x) (by simp;omega) (by simp;omega)
 exact⟨v',w',h1,Hi h2,Hi fun w0 hb hB0=>ownV_below (bel_allocE hb _) (World.ownsRow.mono (h.alloc _) hB0) h3 (by have:=hb.size;simp;omega)⟩
theorem rvalues_any(r:List BV.V)(hr5:r.length≤100000)(es:List E)(v:Vl)(S:Nat→Prop)(w:World)(A B:Option Addr)(c d:Nat)(hsub:Sub S w (.mk [] v [] [] es) B d)(hr:BV.RowAt w w.heap.size A r)(hf:∀ e∈es,e.fit deedP r)(hg:∀ e∈es,e.good r.length=true∧e.size≤900)(hl:es.length≤2000) :
  Calls Tryz.prog 35 #[.slice B es.length d,.slice A r.length c] w (Vals w (es.map fun e=>e.ev deedP r)):=by
 obtain⟨hlc,hcm,hmem⟩:=hsub;have HM:=Hi hmem;obtain⟨l,hll⟩:∃ l,es.map (fun e=>e.ev deedP r)=l:=⟨_,rfl⟩
 obtain⟨n,hn⟩:∃ n,n=es.length:=⟨_,rfl⟩;have hln:l.length=n:=by rw[←hll,List.length_map,hn]
 have HEV:=Hi (fun k (hk:k < es.length) (x:Value) (W:World) (hx:EAt S W es[k] x) (hb:Below w.heap.size w W)=>rEval_any r hr5 es[k] (hg _ (List.getElem_mem hk)).1 (hg _ (List.getElem_mem hk)).2 x S W A c hx (hr.later hb) (hf _ (List.getElem_mem hk)))
 have HG:Hid (∀ k (hk:k < n),∃ (h1:k < es.length) (h2:k < l.length),es[k].ev deedP r=l[k]):=Hi fun k hk=>⟨by omega,by omega,by subst hll;simp⟩
 have HLN:=Hi hln;have hml:(l.map (·.2)).length=n:=by rw[List.length_map,hln]
 have HML:=Hi hml;have HO1:Hid (OwnV w w.heap.size (.slice none 0 0) ((l.map (·.2)).take 0)):=Hi (by simpa using OwnV.nil w w.heap.size)
 have HB1:=Hi (Below.refl w.heap.size w);rw[hll];rw[←hn]at hl ⊢;generalize r.length=rl at *;clear hmem hlc hcm hr hf hg hll hn hln hml;go_enter Tryz.func35,Tryz.ntmps35;go_wp2_with fail
 go_loopw [13,6] (fun i ov wr=>∃ (k:Nat) (lv:Value),lv=ov∧k≤n∧i = .int .i64 k∧Hid (∀ a∈l.take k,a.1=0)∧Hid (OwnV wr w.heap.size lv ((l.map (·.2)).take k))∧Hid (Below w.heap.size w wr)) (fun i _ _=>n - (intOf i).toNat)
 case atStart=>exact⟨0,_,rfl,Nat.zero_le _,rfl,Hi (by simp),HO1,HB1⟩
 case round =>
  obtain⟨k,lv,rfl,hk,rfl,HC,HO,HB⟩:=hrel
  by_cases hlt:k < n
  ·obtain⟨hke,hkl,hkk⟩:=HG.out k hlt
   obtain⟨g,off,rfl,hS,hg,hl7⟩:=HM.out (by omega)
   obtain⟨A',c'',⟨g0,g1,g2,g3,g4,g5,g6⟩,hs⟩:=hl7.get k hke;have hkz:(k:Int) < (n:Int):=by omega
   have i0:=(HB.out.cell (p:=⟨g,off+k*7,none⟩) hg).trans g0;have i1:=(HB.out.cell (p:=⟨g,off+k*7+1,none⟩) hg).trans g1;have i2:=(HB.out.cell (p:=⟨g,off+k*7+2,none⟩) hg).trans g2;have i3:=(HB.out.cell (p:=⟨g,off+k*7+3,none⟩) hg).trans g3;have i4:=(HB.out.cell (p:=⟨g,off+k*7+4,none⟩) hg).trans g4;have i5:=(HB.out.cell (p:=⟨g,off+k*7+5,none⟩) hg).trans g5;have i6:=(HB.out.cell (p:=⟨g,off+k*7+6,none⟩) hg).trans g6;obtain⟨Wa,Wb,hWa,hWb,b1,b2,hz,hb1,hb2⟩:=made7 wr (.string (str es[k].op)) (.int .i64 es[k].v.k) (.int .i64 es[k].v.i) (.string (str es[k].v.s)) (.string (str es[k].tb)) (.string (str es[k].nm)) (.slice A' es[k].l.length c'');obtain⟨f10,f11,f12,f13,f14,f15,f16⟩:=b1.free;obtain⟨y10,y11,y12,y13,y14,y15,y16⟩:=b2.cells;obtain⟨p10,p11,p12,p13,p14,p15,p16⟩:=b1.cells
   have hE:EAt S Wb es[k] (eVal es[k].op es[k].v es[k].tb es[k].nm (.slice A' es[k].l.length c'')):=by
    have h0:EAt S w es[k] (eVal es[k].op es[k].v es[k].tb es[k].nm (.slice A' es[k].l.length c'')):=⟨A',c'',rfl,hs⟩;exact(h0.later HB.out).later hb2
   have HCE:=Hi (HEV.out k hke _ Wb hE (bthen HB.out hb2));rw[hkk]at HCE;have HTN:Hid (l.take (k+1)=l.take k ++ [l[k]]):=Hi (take_next hkl);have hkm:k < (l.map (·.2)).length:=by rw[HML.out];exact hlt
   have HPN:=Hi (take_next hkm);have HTL:Hid (((l.map (·.2)).take k).length≤100000):=Hi (by rw[List.length_take];have:=HML.out;omega)
   rw[List.getElem_map]at HPN;have HNO:=Hi (fun W (h:¬l[k].1=0) (hb:Below w.heap.size w W)=>vals_no hkl HC.out h hb)
   have HBb:=Hi (bthen HB.out hb2);have HOb:=Hi (HO.out.later hb2);have HWa:=Hi hWa;have HWb:=Hi hWb;unfold eVal VR at HCE;generalize str es[k].op=bo' at *;generalize str es[k].tb=bt' at *;generalize str es[k].nm=bn' at *;generalize str es[k].v.s=bs' at *;generalize es[k].v.k=vk' at *;generalize es[k].v.i=vi' at *;generalize es[k].l.length=ln' at *;generalize l[k]=an at *;obtain⟨er,uk,ui,us⟩:=an;clear hkk hWa hWb hs hl7 hE g0 g1 g2 g3 g4 g5 g6 b1 b2 hb1 hb2 hz HB HO HEV HM HG hkl hkm;dsimp only at HCE HPN HNO
   go_wp2_with (first | (rw[←HWb.out]) | (rw[←HWa.out]))
   refine(HCE.out).mono ?_;rintro e w3 ⟨rfl,b3⟩;obtain⟨W4,hW4⟩:∃ W4:World,W4=w3.alloc (.cells #[.int .i64 uk,.int .i64 ui,.string us] 26):=⟨_,rfl⟩;have b4:Below w3.heap.size w3 W4:=by rw[hW4];exact(Below.refl _ _).alloc (Nat.le_refl _) _
   have v4:VBox W4 w3.heap.size ⟨uk,ui,us⟩:=by rw[hW4];exact VBox.made w3 ⟨uk,ui,us⟩
   obtain⟨m0,m1,m2⟩:=v4.cells;have HB4:=Hi (bthen HBb.out (bthen b3 b4));have HO4:=Hi (HOb.out.later (bthen b3 b4));have HW4:=Hi hW4;dsimp only at m0 m1 m2;clear b3 b4 v4 hW4 HCE HBb HOb y10 y11 y12 y13 y14 y15 y16 f10 f11 f12 f13 f14 f15 f16 p10 p11 p12 p13 p14 p15 p16 HWa HWb i0 i1 i2 i3 i4 i5 i6
   by_cases h0:er=0
   ·subst h0
    obtain⟨v',w',hrun,HO6,HG6⟩:=ownV_one 39 Tryz.underlying39 HO4.out ⟨uk,ui,us⟩ HTL.out HB4.out.size;dsimp only at hrun;rw[←HPN.out]at HO6;have HB6:=Hi (HG6.out w HB4.out (Nat.le_refl _))
    have HC':Hid (∀ a∈l.take (k+1),a.1=0):=by
     rw[HTN.out];refine Hi fun a h => ?_
     rcases List.mem_append.1 h with h | h
     ·exact HC.out a h
     ·rw[List.mem_singleton]at h
      rw[h]
    clear HC HTN HPN HNO HO4 HB4 HG6
    go_wp2_with (first | (rw[←HW4.out]) | (at_builtin;refine Lib.wpList_append_run_sl _ rfl _ _ 39 rfl _ _ rfl rfl hrun ?_))
    go_roundw
    case rel=>exact⟨k+1,_,rfl,by omega,by go_num,HC',HO6,HB6⟩
    case measure=>simp[intOf];omega
   ·have e0:(er != 0)=true:=by simpa using h0
    have HFIN:=Hi (HNO.out W4 h0 HB4.out);clear HC HTN HPN HNO HO4 HB4
    go_wp2_with (rw[←HW4.out])
    go_ret2
    exact HFIN.out
  ·obtain rfl:k=n:=by omega
   have ho:=HO.out;rw[List.take_of_length_le (by rw[HML.out];exact Nat.le_refl _)]at ho
   have hc:=HC.out;rw[List.take_of_length_le (by rw[HLN.out];exact Nat.le_refl _)]at hc
   have HFIN:=Hi (vals_yes hc ho HB.out);clear ho hc HO HC HEV HM HG;go_wp2_with fail
   go_ret2
   exact HFIN.out
theorem rproject_any(rs:List BV.R)(A B:Option Addr)(ca d:Nat)(es:List E)(v0:Vl)(S:Nat→Prop)(w:World)(ha:BV.RowsAt w w.heap.size A rs)(hsub:Sub S w (.mk [] v0 [] [] es) B d)(hla:rs.length≤100000)(hle:es.length≤2000)(hwa:∀ r∈rs,r.xs.length≤100000)(hf:∀ r∈rs,∀ e∈es,e.fit deedP r.xs)(hg:∀ r∈rs,∀ e∈es,e.good r.xs.length=true∧e.size≤900) :
  Calls Tryz.prog 13 #[.slice A rs.length ca,.slice B es.length d] w (RowsE w (firstE ((rs.map BV.R.xs).map (projE es))) ((rs.map BV.R.xs).map (projV es))):=by
 obtain⟨n,hn⟩:∃ n,n=rs.length:=⟨_,rfl⟩;obtain⟨a,haa⟩:∃ a,rs.map BV.R.xs=a:=⟨_,rfl⟩;have hlA:a.length=n:=by rw[←haa,List.length_map,hn]
 have HA:Hid (∀ k (h:k < n),∃ h':k < rs.length,∃ h'':k < a.length,rs[k].xs=a[k]):=Hi fun k h=>⟨by omega,by omega,by subst haa;simp⟩
 rw[haa];have HV:=Hi (fun(k:Nat) (hk:k < rs.length) (W:World) (hb:Below w.heap.size w W)=>rvalues_any rs[k].xs (hwa _ (List.getElem_mem hk)) es v0 S W rs[k].A B rs[k].c d (sub_later hsub hb) ((ha.2 rs[k] (List.getElem_mem hk)).later hb) (hf _ (List.getElem_mem hk)) (hg _ (List.getElem_mem hk)) hle)
 rw[←hn]at hla ⊢;generalize es.length=el at *;have HLA:=Hi hlA;have RA:=Hi ha;obtain⟨pl,hpl⟩:∃ pl,a.map (projV es)=pl:=⟨_,rfl⟩;obtain⟨el',hel⟩:∃ el',a.map (projE es)=el':=⟨_,rfl⟩;have hlp:pl.length=n:=by rw[←hpl,List.length_map,hlA]
 have hlq:el'.length=n:=by rw[←hel,List.length_map,hlA]
 have HP:Hid (∀ k (h:k < n),∃ h'':k < a.length,∃ h1:k < pl.length,∃ h2:k < el'.length,pl[k]=projV es a[k]∧el'[k]=projE es a[k]):=Hi fun k h=>⟨by omega,by omega,by omega,by subst hpl;simp,by subst hel;simp⟩
 have HLP:=Hi hlp;have HLQ:=Hi hlq;have HNO:Hid (∀ k (h:k < el'.length) W,(∀ x∈el'.take k,x=0)→¬el'[k]=0→Hid (Below w.heap.size w W)→RowsE w (firstE el') pl (.returned (.tuple #[.slice none 0 0,.int .i64 el'[k]])) W):=Hi fun k h W h0 h1 hb=>by rw[firstE_at h h0 h1];exact rowsE_no h1 hb
 have HYES:Hid (∀ v W,(∀ x∈el',x=0)→Hid (OwnR W w.heap.size v pl)→Hid (Below w.heap.size w W)→RowsE w (firstE el') pl (.returned (.tuple #[v,.int .i64 0])) W):=Hi fun v W h0 ho hb=>by rw[firstE_zero.2 h0];exact rowsE_yes ho.out hb
 have HO1:Hid (OwnR w w.heap.size (.slice none 0 0) (pl.take 0)):=Hi (by simpa using OwnR.nil w w.heap.size)
 have HB1:=Hi (Below.refl w.heap.size w);rw[hpl,hel];clear ha hwa haa hn hlA hsub hf hg hpl hel hlp hlq;go_enter Tryz.func13,Tryz.ntmps13;go_wp2_with fail
 go_loopw [13,6] (fun i ov wr=>∃ (k:Nat) (lv:Value),lv=ov∧k≤n∧i = .int .i64 k∧Hid (∀ x∈el'.take k,x=0)∧Hid (OwnR wr w.heap.size lv (pl.take k))∧Hid (Below w.heap.size w wr)) (fun i _ _=>n - (intOf i).toNat)
 case atStart=>exact⟨0,_,rfl,Nat.zero_le _,rfl,Hi (by simp),HO1,HB1⟩
 case round =>
  obtain⟨k,lv,rfl,hk,rfl,HC,HO,HB⟩:=hrel
  by_cases hlt:k < n
  ·obtain⟨hkx,hka,hkk⟩:=HA.out k hlt
   obtain⟨hka',hkp,hkq,hp1,hp2⟩:=HP.out k hlt;obtain⟨ba,offa,hAa,hbla,hca⟩:=RA.out.1 (by omega)
   subst hAa;have e1:=(HB.out.cell (p:=⟨ba,_,none⟩) hbla).trans (hca k hkx);unfold BV.R.val at e1;have HJ1:=Hi (HV.out k hkx wr HB.out);rw[hkk]at e1 HJ1;unfold Vals at HJ1;have hpe:firstE ((es.map fun e=>e.ev deedP a[k]).map (·.1))=el'[k]:=by rw[hp2];rfl
   have hpv:(es.map fun e=>e.ev deedP a[k]).map (·.2)=pl[k]:=by rw[hp1];rfl
   rw[hpe,hpv]at HJ1;have HTN:Hid (el'.take (k+1)=el'.take k ++ [el'[k]]):=Hi (take_next hkq);have HPN:=Hi (take_next hkp);have HTL:Hid ((pl.take k).length≤1000000):=Hi (by rw[List.length_take];have:=HLP.out;omega)
   have HNO1:=Hi (fun W=>HNO.out k hkq W HC.out)
   generalize rs[k].A=xA at *;generalize rs[k].c=xc at *;generalize pl[k]=p at *;generalize el'[k]=er at *;generalize a[k].length=lx at *;clear hca hkk hp1 hp2 hpe hpv HV HP HNO;go_wp2_with fail;refine(HJ1.out).mono ?_;rintro q w5 ⟨v5,rfl,HO5,HB5⟩
   by_cases h0:er=0
   ·subst h0
    have ho5:=HO5.out rfl;have HO5':=Hi (HO.out.later HB5.out);have HB5':=Hi (bthen HB.out HB5.out);obtain⟨A5,c5,rfl,hoff⟩:=ho5.off (B':=w.heap.size) (g:=lv.ownBlock) HB.out.size (fun k e=>(HO.out.lt k e).2)
    obtain⟨v',w',hrun,h6,h7⟩:=ownR_app HO5'.out A5 c5 p hoff HB5'.out.size HTL.out;rw[←HPN.out]at h6;have HO6:=Hi h6;have HB6:=Hi (ownR_below HB5'.out HO5'.out h7 (Nat.le_refl _) HB5'.out.size)
    have HC':Hid (∀ x∈el'.take (k+1),x=0):=by
     rw[HTN.out];refine Hi fun x h => ?_
     rcases List.mem_append.1 h with h | h
     ·exact HC.out x h
     ·rw[List.mem_singleton]at h
      exact h
    generalize p.length=lp at *;clear HO5 HB5 ho5 hoff h6 h7 HJ1 HPN e1 HC HNO1 HTN HO5' HB5'
    go_wp2_with (at_builtin;refine Lib.wpList_append_run_sl _ rfl _ _ 22 rfl _ _ rfl rfl hrun ?_)
    go_roundw
    case rel=>exact⟨k+1,_,rfl,by omega,by go_num,HC',HO6,HB6⟩
    case measure=>simp[intOf];omega
   ·have e0:(er != 0)=true:=by simpa using h0
    have HFIN:=Hi (HNO1.out w5 h0 (Hi (bthen HB.out HB5.out)));clear HO5 HB5 HJ1 HPN e1 HC HNO1 HTN;go_wp2_with fail
    go_ret2
    exact HFIN.out
  ·obtain rfl:k=n:=by omega
   have h:=HO.out;rw[List.take_of_length_le (by rw[HLP.out];exact Nat.le_refl _)]at h
   have hc:=HC.out;rw[List.take_of_length_le (by rw[HLQ.out];exact Nat.le_refl _)]at hc
   have HFIN:=Hi (HYES.out _ wr hc (Hi h) HB);clear h hc HO HC HV HP HNO HYES;go_wp2_with fail
   go_ret2
   exact HFIN.out
end Go.Proofs.YtcicpjgnpcnnmaaGreatDoor
