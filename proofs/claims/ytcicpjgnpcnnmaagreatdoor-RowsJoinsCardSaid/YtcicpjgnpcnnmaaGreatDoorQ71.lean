import Derived.Test.YtcicpjgnpcnnmaaGreatDoorQ70
import Derived.Test.YtcicpjgnpcnnmaaGreatDoorQ41
import Derived.Test.YtcicpjgnpcnnmaaGreatDoorQ40
set_option maxRecDepth 100000
set_option maxHeartbeats 32000000
set_option linter.unusedSimpArgs false
set_option linter.unusedVariables false
namespace Go.Proofs.YtcicpjgnpcnnmaaGreatDoor
open Go.RowKit
theorem samel_la{a b:List (List BV.V)}{A B:Option Addr}{n ca m cb:Nat}{w:World}(er:Int)(ha:LA w A n ca a)(hb:LA w B m cb b)(he:a=b)(hla:n≤1000000)(hwa:∀ r∈a,r.length≤100000) :
  Calls Tryz.prog 16 #[.slice A n ca,.int .i64 er,.slice B m cb,.int .i64 er] w fun q w'=>q = .returned (.bool true)∧Below w.heap.size w w':=by
 have HS:=Hi (same_la ha hb he hla hwa);clear ha hb he hla hwa;go_enter Tryz.func16,Tryz.ntmps16;go_wp2_with fail;refine(HS.out).mono ?_;rintro q w2 ⟨rfl,b2⟩;go_wp2_with fail
 go_ret
 exact⟨rfl,b2⟩
def AskJ(w:World)(xv:Value)(t:List BV.V→Int×Bool)(a b:List (List BV.V)):Prop:=∀ x∈a,∀ y∈b,∀ W A c,Below w.heap.size w W→BV.RowAt W W.heap.size A (x++y)→Calls Tryz.prog 15 #[xv,.slice A (x++y).length c] W fun q w'=>q = .returned (.tuple #[.bool (t (x++y)).2,.int .i64 (t (x++y)).1])∧Below W.heap.size W w'
theorem rjoin_kind(kind:ByteArray)(L F G C lf rt:Bool)(ra rb:List BV.R)(A B:Option Addr)(ca cb wa wb:Nat)(s0:ByteArray)(i1 i2:Int)(s3 s4 s5:ByteArray)(v6:Value)(t:List BV.V→Int×Bool)(w:World)
  (hin:∀ W,Calls Tryz.prog 43 #[.string kind,.slice (some ⟨W.heap.size,0,none⟩) 5 5] (W.alloc (.cells #[.string ⟨#[105,110,110,101,114]⟩,.string ⟨#[108,101,102,116]⟩,.string ⟨#[114,105,103,104,116]⟩,.string ⟨#[102,117,108,108]⟩,.string ⟨#[99,114,111,115,115]⟩] 9)) fun e w'=>e = .returned (.bool true)∧Below W.heap.size W w')
  (hkl:(kind.toList == [108,101,102,116])=L)(hkf:(kind.toList == [102,117,108,108])=F)(hkr:(kind.toList == [114,105,103,104,116])=G)(hkc:(kind.toList == [99,114,111,115,115])=C)(hlf:lf=(L || F))(hrt:rt=(G || F))(hct:C=true→∀ r,t r=(0,true))
  (ha:BV.RowsAt w w.heap.size A ra)(hb:BV.RowsAt w w.heap.size B rb)(hla:ra.length≤500)(hlb:rb.length≤500)(hwa:∀ r∈ra,r.xs.length≤60)(hwb:∀ r∈rb,r.xs.length≤60)(hna:wa≤60)(hnb:wb≤60)
  (hask:C=false→AskJ w (.agg #[.string s0,.int .i64 i1,.int .i64 i2,.string s3,.string s4,.string s5,v6]) t (ra.map BV.R.xs) (rb.map BV.R.xs)) :
  Calls Tryz.prog 18 #[.string kind,.slice A ra.length ca,.slice B rb.length cb,.int .i64 wa,.int .i64 wb,.agg #[.string s0,.int .i64 i1,.int .i64 i2,.string s3,.string s4,.string s5,v6]] w (Rows2 w (errsP t (pairsP (ra.map BV.R.xs) (rb.map BV.R.xs))) (JRes t lf rt (ra.map BV.R.xs) (rb.map BV.R.xs) wa wb)):=by
 obtain⟨n,hn⟩:∃ n,n=ra.length:=⟨_,rfl⟩;obtain⟨m,hm⟩:∃ m,m=rb.length:=⟨_,rfl⟩;obtain⟨a,haa⟩:∃ a,ra.map BV.R.xs=a:=⟨_,rfl⟩;obtain⟨b,hbb⟩:∃ b,rb.map BV.R.xs=b:=⟨_,rfl⟩;have hlA:a.length=n:=by rw[←haa,List.length_map,hn]
 have hlB:b.length=m:=by rw[←hbb,List.length_map,hm]
 have HA:Hid (∀ k (h:k < n),∃ h':k < ra.length,∃ h'':k < a.length,ra[k].xs=a[k]):=Hi fun k h=>⟨by omega,by omega,by subst haa;simp⟩
 have HB:Hid (∀ k (h:k < m),∃ h':k < rb.length,∃ h'':k < b.length,rb[k].xs=b[k]):=Hi fun k h=>⟨by omega,by omega,by subst hbb;simp⟩
 rw[haa,hbb]at hask ⊢;rw[←hn]at hla ⊢;rw[←hm]at hlb ⊢;have HLA:=Hi hlA;have HLB:=Hi hlB;have RA:=Hi ha;have RB:=Hi hb;have WA:=Hi hwa;have WB:=Hi hwb;have HASK:=Hi hask;have HCT0:=Hi hct;have HLF:=Hi hlf;have HRT:=Hi hrt
 have HE:Hid (∀ k j (hk:k < a.length) (hj:j < b.length),(∀ r∈pairsP (a.take k) b,(t r).1=0)→(∀ y∈b.take j,(t (a[k]++y)).1=0)→¬(t (a[k]++b[j])).1=0→errsP t (pairsP a b)=(t (a[k]++b[j])).1∧JRes t lf rt a b wa wb = []):=Hi fun k j hk hj h1 h2 h3=>by
  have h:=errs_at hk hj h1 h2 h3;exact⟨h,by unfold JRes;rw[h,if_neg h3]⟩
 have HZ:Hid ((∀ r∈pairsP (a.take n) b,(t r).1=0)→errsP t (pairsP a b)=0∧JRes t lf rt a b wa wb=jLeft t lf (a.take n) b (List.replicate wb zW)++if rt then riP t a b (List.replicate wa zW) m else []):=Hi fun h=>by
  rw[←hlA,List.take_length]at h ⊢;rw[←hlB,ri_end];have h0:=errs_zero.2 h;exact⟨h0,by unfold JRes;rw[h0,if_pos rfl];rfl⟩
 generalize errsP t (pairsP a b)=ER at *;generalize JRes t lf rt a b wa wb=JR at *;obtain⟨W1,hW1,q1,z1,r1⟩:=box7 w (.string s0) (.int .i64 i1) (.int .i64 i2) (.string s3) (.string s4) (.string s5) v6;have HW1:=Hi hW1;have Q1:=Hi q1;have R1:=Hi r1;clear hct hlf hrt ha hb hwa hwb hask haa hbb hn hm hlA hlB hW1 q1 r1 z1;go_enter Tryz.func18,Tryz.ntmps18
 go_wp2_with (rw[←HW1.out])
 refine(hin W1).mono ?_;rintro e w2 ⟨rfl,b2⟩;have Q2:=Hi (Q1.out.later b2);have R2:=Hi (bthen R1.out b2);have hmk:=made_flags m (by omega) w2
 obtain⟨W4,hW4⟩:∃ W4:World,W4=w2.alloc (.cells ((List.replicate m false).map Value.bool).toArray 4):=⟨_,rfl⟩;rw[←hW4]at hmk;have HW4:=Hi hW4;have hq8:w.heap.size < w2.heap.size:=Q2.out.lt
 have J4:Hid (JS w W4 w.heap.size w2.heap.size (.string s0) (.int .i64 i1) (.int .i64 i2) (.string s3) (.string s4) (.string s5) v6 (fl0 t [] b) (.slice none 0 0) (jLeft t lf (a.take 0) b (List.replicate wb zW))):=by
  have hf:(fl0 t [] b)=List.replicate m false:=by
   rw[←HLB.out];unfold fl0;simp only[List.any_nil];exact List.map_const' ..
  have hA:=(Below.refl w2.heap.size w2).alloc (Nat.le_refl _) (.cells ((List.replicate m false).map Value.bool).toArray 4);rw[←hW4]at hA;refine Hi ⟨by simpa [jLeft]using OwnR.nil W4 (w2.heap.size+1),by rw[hf,hW4];exact heap_alloc_new w2 _,Q2.out.later hA,bthen R2.out hA,hq8,by omega⟩
 clear hin b2 hW4 Q2 R2 Q1 R1 HW1;generalize w2.heap.size=q at *
 go_wp2_with (rw[←HW4.out])
 clear hmk
 go_loopw [36,14] (fun i ov wr=>∃ (k:Nat) (o:Value),o=ov∧k≤n∧i = .int .i64 k∧Hid (JS w wr w.heap.size q (.string s0) (.int .i64 i1) (.int .i64 i2) (.string s3) (.string s4) (.string s5) v6 (fl0 t (a.take k) b) o (jLeft t lf (a.take k) b (List.replicate wb zW)))∧Hid (∀ r∈pairsP (a.take k) b,(t r).1=0)) (fun i _ _=>n - (intOf i).toNat)
 case atStart=>exact⟨0,_,rfl,Nat.zero_le _,rfl,J4,Hi (by simp[pairsP])⟩
 case round =>
  obtain⟨k,o,rfl,hk,rfl,JK,NE⟩:=hrel
  by_cases hlt:k < n
  ·obtain⟨hkx,hka,hkk⟩:=HA.out k hlt
   obtain⟨ba,offa,hAa,hbla,hca⟩:=RA.out.1 (by omega)
   subst hAa;have e1:=(JK.out.bel.cell (p:=⟨ba,_,none⟩) hbla).trans (hca k hkx);unfold BV.R.val at e1;have HX1:=Hi (fun W (hb:Below w.heap.size w W)=>(RA.out.2 ra[k] (List.getElem_mem hkx)).later hb)
   have HX2:=Hi (WA.out ra[k] (List.getElem_mem hkx));have HMEM:=Hi (show a[k]∈a from List.getElem_mem hka)
   have HNX:=Hi (left_next t lf b (List.replicate wb zW) hka);have HPX:=Hi (pairs_next b hka);have HFE:=Hi (fl_end t (a.take k) a[k] b);rw[←take_next hka]at HFE;have HEK:=Hi (fun j (hj:j < b.length) h2 h3=>HE.out k j hka hj NE.out h2 h3)
   have HTL:=Hi (take_small (a:=a) (k:=k) (m:=m) (by rw[HLA.out];exact hla) hlb)
   have HJL:=Hi (jleft_len t lf (a.take k) b (List.replicate wb zW));rw[HLB.out]at HJL;rw[hkk]at HX1 HX2 e1;obtain⟨ax,hax⟩:∃ ax:BV.R,ax=⟨ra[k].A,ra[k].c,a[k]⟩:=⟨_,rfl⟩;generalize ra[k].A=xA at *;generalize ra[k].c=xc at *;generalize a[k]=x at *;clear hca hkk;go_wp2_with fail;obtain⟨wo,rfl⟩:∃ wo:World,wo=wr:=⟨_,rfl⟩
   have JI:Hid (JS w wo w.heap.size q (.string s0) (.int .i64 i1) (.int .i64 i2) (.string s3) (.string s4) (.string s5) v6 (flP t (a.take k) x 0 b) o (jLeft t lf (a.take k) b (List.replicate wb zW)++goP t x b 0)):=by
    rw[fl_start,show goP t x b 0 = [] from rfl,List.append_nil]
    exact JK
   go_loopw [42,14,18] (fun i ov al wr=>∃ (j:Nat) (o:Value),o=ov∧j≤m∧i = .int .i64 j∧al = .bool (alP t x b j)∧Hid (JS w wr w.heap.size q (.string s0) (.int .i64 i1) (.int .i64 i2) (.string s3) (.string s4) (.string s5) v6 (flP t (a.take k) x j b) o (jLeft t lf (a.take k) b (List.replicate wb zW)++goP t x b j))∧Hid (∀ y∈b.take j,(t (x++y)).1=0)) (fun i _ _ _=>m - (intOf i).toNat)
   case atStart=>exact⟨0,_,rfl,Nat.zero_le _,rfl,rfl,JI,Hi (by simp)⟩
   case round =>
    obtain⟨j,o2,rfl,hj,rfl,rfl,JJ,NJ⟩:=hrel
    by_cases hltj:j < m
    ·obtain⟨hjx,hjb,hjj⟩:=HB.out j hltj
     obtain⟨bb,offb,hBb,hblb,hcb⟩:=RB.out.1 (by omega)
     subst hBb;have e2:=(JJ.out.bel.cell (p:=⟨bb,_,none⟩) hblb).trans (hcb j hjx);unfold BV.R.val at e2;have HY1:=Hi ((RB.out.2 rb[j] (List.getElem_mem hjx)).later JJ.out.bel);have HY2:=Hi (WB.out rb[j] (List.getElem_mem hjx));have HYM:=Hi (show b[j]∈b from List.getElem_mem hjb)
     have HER:=Hi (fun h3=>HEK.out j hjb NJ.out h3)
     have HGL:=Hi (go_len t x b j);rw[HLB.out]at HGL;have HFY:=Hi (fun h=>@fl_yes _ t (a.take k) x j b hjb h)
     have HFN:=Hi (fun h=>@fl_no _ t (a.take k) x j b hjb h)
     have HGY:=Hi (fun h=>@go_yes _ t x b j hjb h)
     have HGN:=Hi (fun h=>@go_no _ t x b j hjb h)
     have HAY:=Hi (fun h=>@al_yes _ t x b j hjb h)
     have HAN:=Hi (fun h=>@al_no _ t x b j hjb h)
     have HTN:=Hi (take_next hjb);have HFL:=Hi (fl_len t (a.take k) x j b);rw[HLB.out]at HFL;rw[hjj]at HY1 HY2 e2;have HJ2:=Hi (both_any x b[j] xA rb[j].A xc rb[j].c wr (HX1.out wr JJ.out.bel) HY1.out (Nat.le_trans HX2.out (by decide)) (Nat.le_trans HY2.out (by decide)))
     unfold Made at HJ2;have HCT:=Hi (fun h=>HASK.out h x HMEM.out b[j] HYM.out)
     have HC0:=Hi (fun h=>HCT0.out h (x++b[j]))
     have HIT:Hid ((t (x++b[j])).2=hitP t x b[j]):=Hi rfl;generalize rb[j].A=yA at *;generalize rb[j].c=yc at *;generalize b[j]=y at *;generalize hitP t x y=hit at *;generalize hrr:t (x++y)=tr at *;have HRR:=Hi hrr;clear hcb hjj HY1 HY2 hrr;go_wp2_with fail;refine(HJ2.out).mono ?_;rintro e w3 ⟨v3,rfl,HO3,HB3⟩;have J3:=Hi (JJ.out.later HB3.out);obtain⟨A3,c3,rfl,hoff⟩:=JJ.out.off HO3.out (Nat.le_refl _);have HOF:=Hi hoff;obtain⟨p0,p1,p2,p3,p4,p5,p6⟩:=J3.out.box.cells;cases C
     case false =>
      have HC3:=Hi (HCT.out rfl w3 A3 c3 J3.out.bel hoff.row);obtain⟨lxy,hlxy⟩:∃ lxy,(x++y).length=lxy:=⟨_,rfl⟩;rw[hlxy]at HC3 ⊢;have HLX:=Hi hlxy;clear HO3 HB3 hoff HJ2 e2 HCT hlxy HC0;go_wp2_with fail;refine(HC3.out).mono ?_;rintro e w4 ⟨rfl,b4⟩;have J4':=Hi (J3.out.later b4);have HO4:=Hi (HOF.out.same b4.size fun k' _ hk' _=>b4.block k' hk')
      clear b4 HC3 HOF J3 JJ p0 p1 p2 p3 p4 p5 p6
      by_cases her:tr.1=0
      ·have her':(tr.1 != 0)=false:=by simp[her]
       have NJ':Hid (∀ y∈b.take (j+1),(t (x++y)).1=0):=by
        rw[HTN.out];refine Hi fun z hz => ?_
        rcases List.mem_append.1 hz with h | h
        ·exact NJ.out z h
        ·rw[List.mem_singleton]at h
         rw[h,HRR.out];exact her
       rw[her]
       by_cases hht:hit=true
       ·have ht2:tr.2=true:=HIT.out.trans hht
        rw[ht2];have h1:=HFY.out hht;have h2:=HGY.out hht;have h3:=HAY.out hht;obtain⟨v5,w5,hrun,J5⟩:=J4'.out.app A3 c3 (x++y) HO4.out (by rw[List.length_append];have:=HTL.out;have:=HJL.out;have:=HGL.out;omega)
        rw[HLX.out]at hrun;have c5:=J5.out.fl.cell j (by have:=HFL.out;omega)
        have f5:=J5.out.fl.free j;have J6:=Hi (J5.out.set j true);rw[←h1,List.append_assoc,←h2]at J6;have H3:=Hi h3.symm;have hjm:(j:Int) < (m:Int):=by omega
        clear h1 h2 h3 J5 J4' HO4 ht2 her her' HIT HRR HER HFY HFN HGY HGN HAY HAN hht
        go_wp2_with (at_builtin;refine Lib.wpList_append_run_sl _ rfl _ _ 22 rfl _ _ rfl rfl hrun ?_)
        go_roundw
        case rel=>exact⟨j+1,_,rfl,by omega,by go_num,by rw[H3.out],J6,NJ'⟩
        case measure=>simp[intOf];omega
       ·have hhf:hit=false:=by simpa using hht
        have ht2:tr.2=false:=HIT.out.trans hhf;rw[ht2];have h1:=HFN.out hhf;have h2:=HGN.out hhf;have h3:=HAN.out hhf;rw[←h1,←h2]at J4';have H3:=Hi h3.symm;clear h1 h2 h3 HO4 ht2 her her' HIT HRR HER HFY HFN HGY HGN HAY HAN hht hhf;go_wp2_with fail
        go_roundw
        case rel=>exact⟨j+1,_,rfl,by omega,by go_num,by rw[H3.out],J4',NJ'⟩
        case measure=>simp[intOf];omega
      ·have her':(tr.1 != 0)=true:=by simpa using her
       obtain⟨h1,h2⟩:=HER.out her;have HFIN:Hid (Rows2 w ER JR (.returned (.tuple #[.slice none 0 0,.int .i64 tr.1])) w4):=Hi ⟨_,by rw[h1],Hi (by rw[h2];exact OwnR.nil _ _),Hi J4'.out.bel⟩
       generalize tr.1=er at *;clear h1 h2 HER HRR;go_wp2_with fail
       go_ret2
       exact HFIN.out
     case true =>
      obtain⟨lxy,hlxy⟩:∃ lxy,(x++y).length=lxy:=⟨_,rfl⟩;rw[hlxy]at ⊢;have HLX:=Hi hlxy;have htr:=HC0.out rfl;have hht:hit=true:=by rw[←HIT.out,htr]
      have NJ':Hid (∀ y∈b.take (j+1),(t (x++y)).1=0):=by
       rw[HTN.out];refine Hi fun z hz => ?_
       rcases List.mem_append.1 hz with h | h
       ·exact NJ.out z h
       ·rw[List.mem_singleton]at h
        rw[h,HRR.out,htr]
      have J4':=J3;have HO4:=HOF;clear HO3 HB3 hoff HJ2 e2 HCT hlxy HC0 HOF J3 JJ p0 p1 p2 p3 p4 p5 p6 htr;have h1:=HFY.out hht;have h2:=HGY.out hht;have h3:=HAY.out hht;obtain⟨v5,w5,hrun,J5⟩:=J4'.out.app A3 c3 (x++y) HO4.out (by rw[List.length_append];have:=HTL.out;have:=HJL.out;have:=HGL.out;omega)
      rw[HLX.out]at hrun;have c5:=J5.out.fl.cell j (by have:=HFL.out;omega)
      have f5:=J5.out.fl.free j;have J6:=Hi (J5.out.set j true);rw[←h1,List.append_assoc,←h2]at J6;have H3:=Hi h3.symm;have hjm:(j:Int) < (m:Int):=by omega
      clear h1 h2 h3 J5 J4' HO4 HIT HRR HER HFY HFN HGY HGN HAY HAN hht
      go_wp2_with (at_builtin;refine Lib.wpList_append_run_sl _ rfl _ _ 22 rfl _ _ rfl rfl hrun ?_)
      go_roundw
      case rel=>exact⟨j+1,_,rfl,by omega,by go_num,by rw[H3.out],J6,NJ'⟩
      case measure=>simp[intOf];omega
    ·obtain rfl:j=m:=by omega
     have NE':Hid (∀ r∈pairsP (a.take (k+1)) b,(t r).1=0):=by
      rw[HPX.out];refine Hi fun r hr => ?_
      rcases List.mem_append.1 hr with h | h
      ·exact NE.out r h
      ·obtain⟨y,hy,rfl⟩:=List.mem_map.1 h
       exact NJ.out y (by rw[List.take_of_length_le (by rw[HLB.out];exact Nat.le_refl _)];exact hy)
     have hfe:=HFE.out;rw[HLB.out]at hfe;rw[hfe]at JJ;have hnx:=HNX.out;rw[HLB.out]at hnx;clear HFE HNX HEK hfe;generalize alP t x b j=al at *;cases al
     ·rw[Bool.and_false,if_neg (by decide),List.append_nil]at hnx
      rw[←hnx]at JJ;clear hnx;go_wp2_with fail
      go_roundw
      case rel=>exact⟨k+1,_,rfl,by omega,by go_num,JJ,NE'⟩
      case measure=>simp[intOf];omega
     ·cases L
      ·cases F
       ·have hlf':lf=false:=HLF.out
        rw[show(lf && true)=false by rw[hlf'];rfl,if_neg (by decide),List.append_nil]at hnx
        rw[←hnx]at JJ;clear hnx;go_wp2_with fail
        go_roundw
        case rel=>exact⟨k+1,_,rfl,by omega,by go_num,JJ,NE'⟩
        case measure=>simp[intOf];omega
       ·have hlf':lf=true:=HLF.out
        rw[show(lf && true)=(true && true) by rw[hlf']]at hnx
        rw[Bool.true_and,if_pos rfl]at hnx;have HN:=Hi hnx;have HGL:=Hi (go_len t x b j);rw[HLB.out]at HGL;have hmk:=made_zV wb (by omega) wr
        have hmx:max (wb:Int) 0=(wb:Int):=by omega
        have hOM:=ownV_made wr wb (by omega)
        obtain⟨W7,hW7⟩:∃ W7:World,W7=wr.alloc (.cells (BV.flat (List.replicate wb zW)).toArray 26):=⟨_,rfl⟩;rw[←hW7]at hmk hOM;have b7:Below wr.heap.size wr W7:=by rw[hW7];exact bel_allocE (Below.refl _ _) _
        have J3:=Hi (JJ.out.later b7);obtain⟨A3,c3,hA3,-,-,hrow3⟩:=hOM.row;rw[List.length_replicate]at hA3;have HJ2:=Hi (both_any x (List.replicate wb zW) xA A3 xc c3 W7 (HX1.out W7 J3.out.bel) hrow3 (Nat.le_trans HX2.out (by decide)) (by rw[List.length_replicate];omega))
        unfold Made at HJ2;rw[List.length_replicate,←hA3]at HJ2;have HW7:=Hi hW7;clear hnx hOM hrow3 JJ b7 hW7 hA3
        go_wp2_with (rw[←HW7.out])
        refine(HJ2.out).mono ?_;rintro e w4 ⟨v4,rfl,HO4,HB4⟩;have J4':=Hi (J3.out.later HB4.out);obtain⟨A4,c4,rfl,hoff⟩:=J3.out.off HO4.out (Nat.le_refl _);obtain⟨v5,w5,hrun,J5⟩:=J4'.out.app A4 c4 (x++List.replicate wb zW) hoff (by rw[List.length_append];have:=HTL.out;have:=HJL.out;have:=HGL.out;omega)
        rw[←HN.out]at J5;generalize (x++List.replicate wb zW).length=lxy at *;clear HO4 HB4 hoff J4' J3 HJ2 hmk HW7
        go_wp2_with (at_builtin;refine Lib.wpList_append_run_sl _ rfl _ _ 22 rfl _ _ rfl rfl hrun ?_)
        go_roundw
        case rel=>exact⟨k+1,_,rfl,by omega,by go_num,J5,NE'⟩
        case measure=>simp[intOf];omega
      ·have hlf':lf=true:=HLF.out
       rw[show(lf && true)=(true && true) by rw[hlf']]at hnx
       rw[Bool.true_and,if_pos rfl]at hnx;have HN:=Hi hnx;have HGL:=Hi (go_len t x b j);rw[HLB.out]at HGL;have hmk:=made_zV wb (by omega) wr
       have hmx:max (wb:Int) 0=(wb:Int):=by omega
       have hOM:=ownV_made wr wb (by omega)
       obtain⟨W7,hW7⟩:∃ W7:World,W7=wr.alloc (.cells (BV.flat (List.replicate wb zW)).toArray 26):=⟨_,rfl⟩;rw[←hW7]at hmk hOM;have b7:Below wr.heap.size wr W7:=by rw[hW7];exact bel_allocE (Below.refl _ _) _
       have J3:=Hi (JJ.out.later b7);obtain⟨A3,c3,hA3,-,-,hrow3⟩:=hOM.row;rw[List.length_replicate]at hA3;have HJ2:=Hi (both_any x (List.replicate wb zW) xA A3 xc c3 W7 (HX1.out W7 J3.out.bel) hrow3 (Nat.le_trans HX2.out (by decide)) (by rw[List.length_replicate];omega))
       unfold Made at HJ2;rw[List.length_replicate,←hA3]at HJ2;have HW7:=Hi hW7;clear hnx hOM hrow3 JJ b7 hW7 hA3
       go_wp2_with (rw[←HW7.out])
       refine(HJ2.out).mono ?_;rintro e w4 ⟨v4,rfl,HO4,HB4⟩;have J4':=Hi (J3.out.later HB4.out);obtain⟨A4,c4,rfl,hoff⟩:=J3.out.off HO4.out (Nat.le_refl _);obtain⟨v5,w5,hrun,J5⟩:=J4'.out.app A4 c4 (x++List.replicate wb zW) hoff (by rw[List.length_append];have:=HTL.out;have:=HJL.out;have:=HGL.out;omega)
       rw[←HN.out]at J5;generalize (x++List.replicate wb zW).length=lxy at *;clear HO4 HB4 hoff J4' J3 HJ2 hmk HW7
       go_wp2_with (at_builtin;refine Lib.wpList_append_run_sl _ rfl _ _ 22 rfl _ _ rfl rfl hrun ?_)
       go_roundw
       case rel=>exact⟨k+1,_,rfl,by omega,by go_num,J5,NE'⟩
       case measure=>simp[intOf];omega
  ·obtain rfl:k=n:=by omega
   obtain⟨h1,h2⟩:=HZ.out NE.out;subst h1;have hfs:fl0 t (a.take k) b=fl0 t a b:=by rw[List.take_of_length_le (by rw[HLA.out];exact Nat.le_refl _)]
   rw[hfs]at JK;have HJR:=Hi h2;have HTL:=Hi (take_small (a:=a) (k:=k) (m:=m) (by rw[HLA.out];exact hla) hlb)
   have HJL:=Hi (jleft_len t lf (a.take k) b (List.replicate wb zW));rw[HLB.out]at HJL;generalize jLeft t lf (a.take k) b (List.replicate wb zW)=LL at *;clear h2 hfs HE HZ NE;go_wp2_with fail;obtain⟨wo,rfl⟩:∃ wo:World,wo=wr:=⟨_,rfl⟩
   have JI:Hid (JS w wo w.heap.size q (.string s0) (.int .i64 i1) (.int .i64 i2) (.string s3) (.string s4) (.string s5) v6 (fl0 t a b) o (LL++if rt then riP t a b (List.replicate wa zW) 0 else [])):=by
    have e:(if rt then riP t a b (List.replicate wa zW) 0 else [])=([]:List (List BV.V)):=by cases rt <;> rfl
    rw[e,List.append_nil];exact JK
   go_loopw [93,14] (fun i ov wr=>∃ (j:Nat) (o:Value),o=ov∧j≤m∧i = .int .i64 j∧Hid (JS w wr w.heap.size q (.string s0) (.int .i64 i1) (.int .i64 i2) (.string s3) (.string s4) (.string s5) v6 (fl0 t a b) o (LL++if rt then riP t a b (List.replicate wa zW) j else []))) (fun i _ _=>m - (intOf i).toNat)
   case atStart=>exact⟨0,_,rfl,Nat.zero_le _,rfl,JI⟩
   case round =>
    obtain⟨j,o2,rfl,hj,rfl,JJ⟩:=hrel
    by_cases hltj:j < m
    ·obtain⟨hjx,hjb,hjj⟩:=HB.out j hltj
     obtain⟨bb,offb,hBb,hblb,hcb⟩:=RB.out.1 (by omega)
     subst hBb;have e2:=(JJ.out.bel.cell (p:=⟨bb,_,none⟩) hblb).trans (hcb j hjx);unfold BV.R.val at e2;have hjm:(j:Int) < (m:Int):=by omega
     have cfl:=JJ.out.fl.cell j (by rw[fl0_len,HLB.out];exact hltj)
     have hfe:(fl0 t a b)[j]'(by rw[fl0_len,HLB.out];exact hltj)=a.any fun x=>hitP t x b[j]:=by simp[fl0]
     rw[hfe]at cfl
     by_cases hany:(a.any fun x=>hitP t x b[j])=true
     ·have hno:=ri_no (na:=List.replicate wa zW) hjb hany
      rw[hany]at cfl
      have JN:Hid (JS w wr w.heap.size q (.string s0) (.int .i64 i1) (.int .i64 i2) (.string s3) (.string s4) (.string s5) v6 (fl0 t a b) o2 (LL++if rt then riP t a b (List.replicate wa zW) (j+1)else [])):=by
       rw[hno];exact JJ
      clear hcb hjj hno hfe hany JJ;go_wp2_with fail
      go_roundw
      case rel=>exact⟨j+1,_,rfl,by omega,by go_num,JN⟩
      case measure=>simp[intOf];omega
     ·have hany':(a.any fun x=>hitP t x b[j])=false:=by simpa using hany
      cases G
      ·cases F
       ·have hrt':rt=false:=HRT.out
        rw[hany']at cfl;rw[hrt']at JJ;have HRT':=Hi hrt';clear hcb hjj hfe hany hany' hrt';go_wp2_with fail
        go_roundw
        case rel=>exact⟨j+1,_,rfl,by omega,by go_num,by rw[HRT'.out];simpa using JJ⟩
        case measure=>simp[intOf];omega
       ·have hrt':rt=true:=HRT.out
        have HYS:=Hi (ri_yes (na:=List.replicate wa zW) hjb hany');rw[hany']at cfl;rw[hrt']at JJ;simp only[if_true]at JJ;have HY1:=Hi (fun W (hb:Below w.heap.size w W)=>(RB.out.2 rb[j] (List.getElem_mem hjx)).later hb)
        have HY2:=Hi (WB.out rb[j] (List.getElem_mem hjx));rw[hjj]at HY1 HY2 e2;have HRL:=Hi (ri_len t a b (List.replicate wa zW) j);rw[HLB.out]at HRL;have hmk:=made_zV wa (by omega) wr
        have hmx:max (wa:Int) 0=(wa:Int):=by omega
        have hOM:=ownV_made wr wa (by omega)
        obtain⟨W7,hW7⟩:∃ W7:World,W7=wr.alloc (.cells (BV.flat (List.replicate wa zW)).toArray 26):=⟨_,rfl⟩;rw[←hW7]at hmk hOM;have b7:Below wr.heap.size wr W7:=by rw[hW7];exact bel_allocE (Below.refl _ _) _
        have J3:=Hi (JJ.out.later b7);obtain⟨A3,c3,hA3,-,-,hrow3⟩:=hOM.row;rw[List.length_replicate]at hA3;have HJ2:=Hi (both_any (List.replicate wa zW) b[j] A3 rb[j].A c3 rb[j].c W7 hrow3 (HY1.out W7 J3.out.bel) (by rw[List.length_replicate];omega) (Nat.le_trans HY2.out (by decide)))
        unfold Made at HJ2;rw[List.length_replicate,←hA3]at HJ2;have HW7:=Hi hW7;generalize rb[j].A=yA at *;generalize rb[j].c=yc at *;generalize b[j]=y at *;have HRT':=Hi hrt';clear hcb hjj hfe hany hany' hOM hrow3 JJ b7 hW7 hA3 hrt'
        go_wp2_with (rw[←HW7.out])
        refine(HJ2.out).mono ?_;rintro e w4 ⟨v4,rfl,HO4,HB4⟩;have J4':=Hi (J3.out.later HB4.out);obtain⟨A4,c4,rfl,hoff⟩:=J3.out.off HO4.out (Nat.le_refl _);obtain⟨v5,w5,hrun,J5⟩:=J4'.out.app A4 c4 (List.replicate wa zW++y) hoff (by rw[List.length_append];have:=HTL.out;have:=HJL.out;have:=HRL.out;omega)
        rw[List.append_assoc,←HYS.out]at J5;generalize (List.replicate wa zW++y).length=lxy at *;clear HO4 HB4 hoff J4' J3 HJ2 hmk HW7
        go_wp2_with (at_builtin;refine Lib.wpList_append_run_sl _ rfl _ _ 22 rfl _ _ rfl rfl hrun ?_)
        go_roundw
        case rel=>exact⟨j+1,_,rfl,by omega,by go_num,by rw[HRT'.out];simpa using J5⟩
        case measure=>simp[intOf];omega
      ·have hrt':rt=true:=HRT.out
       have HYS:=Hi (ri_yes (na:=List.replicate wa zW) hjb hany');rw[hany']at cfl;rw[hrt']at JJ;simp only[if_true]at JJ;have HY1:=Hi (fun W (hb:Below w.heap.size w W)=>(RB.out.2 rb[j] (List.getElem_mem hjx)).later hb)
       have HY2:=Hi (WB.out rb[j] (List.getElem_mem hjx));rw[hjj]at HY1 HY2 e2;have HRL:=Hi (ri_len t a b (List.replicate wa zW) j);rw[HLB.out]at HRL;have hmk:=made_zV wa (by omega) wr
       have hmx:max (wa:Int) 0=(wa:Int):=by omega
       have hOM:=ownV_made wr wa (by omega)
       obtain⟨W7,hW7⟩:∃ W7:World,W7=wr.alloc (.cells (BV.flat (List.replicate wa zW)).toArray 26):=⟨_,rfl⟩;rw[←hW7]at hmk hOM;have b7:Below wr.heap.size wr W7:=by rw[hW7];exact bel_allocE (Below.refl _ _) _
       have J3:=Hi (JJ.out.later b7);obtain⟨A3,c3,hA3,-,-,hrow3⟩:=hOM.row;rw[List.length_replicate]at hA3;have HJ2:=Hi (both_any (List.replicate wa zW) b[j] A3 rb[j].A c3 rb[j].c W7 hrow3 (HY1.out W7 J3.out.bel) (by rw[List.length_replicate];omega) (Nat.le_trans HY2.out (by decide)))
       unfold Made at HJ2;rw[List.length_replicate,←hA3]at HJ2;have HW7:=Hi hW7;generalize rb[j].A=yA at *;generalize rb[j].c=yc at *;generalize b[j]=y at *;have HRT':=Hi hrt';clear hcb hjj hfe hany hany' hOM hrow3 JJ b7 hW7 hA3 hrt'
       go_wp2_with (rw[←HW7.out])
       refine(HJ2.out).mono ?_;rintro e w4 ⟨v4,rfl,HO4,HB4⟩;have J4':=Hi (J3.out.later HB4.out);obtain⟨A4,c4,rfl,hoff⟩:=J3.out.off HO4.out (Nat.le_refl _);obtain⟨v5,w5,hrun,J5⟩:=J4'.out.app A4 c4 (List.replicate wa zW++y) hoff (by rw[List.length_append];have:=HTL.out;have:=HJL.out;have:=HRL.out;omega)
       rw[List.append_assoc,←HYS.out]at J5;generalize (List.replicate wa zW++y).length=lxy at *;clear HO4 HB4 hoff J4' J3 HJ2 hmk HW7
       go_wp2_with (at_builtin;refine Lib.wpList_append_run_sl _ rfl _ _ 22 rfl _ _ rfl rfl hrun ?_)
       go_roundw
       case rel=>exact⟨j+1,_,rfl,by omega,by go_num,by rw[HRT'.out];simpa using J5⟩
       case measure=>simp[intOf];omega
    ·obtain rfl:j=m:=by omega
     rw[←HJR.out]at JJ;go_wp2_with fail
     go_ret2
     exact⟨_,rfl,Hi (JJ.out.own.mono (by have:=JJ.out.wq;omega)),Hi JJ.out.bel⟩
def kInner:List UInt8:=[105,110,110,101,114]
def kLeft:List UInt8:=[108,101,102,116]
def kRight:List UInt8:=[114,105,103,104,116]
def kFull:List UInt8:=[102,117,108,108]
def kCross:List UInt8:=[99,114,111,115,115]
def kinds5:List (List UInt8):=[kInner,kLeft,kRight,kFull,kCross]
theorem kind_in(k:List UInt8)(W:World):Calls Tryz.prog 43 #[.string (str k),.slice (some ⟨W.heap.size,0,none⟩) 5 5] (W.alloc (.cells #[.string ⟨#[105,110,110,101,114]⟩,.string ⟨#[108,101,102,116]⟩,.string ⟨#[114,105,103,104,116]⟩,.string ⟨#[102,117,108,108]⟩,.string ⟨#[99,114,111,115,115]⟩] 9)) fun e w'=>e = .returned (.bool (decide (k∈kinds5)))∧Below W.heap.size W w' :=
 in_at k kinds5 W (by decide)
theorem kind_yes{k:List UInt8}(hk:k∈kinds5)(W:World):Calls Tryz.prog 43 #[.string (str k),.slice (some ⟨W.heap.size,0,none⟩) 5 5] (W.alloc (.cells #[.string ⟨#[105,110,110,101,114]⟩,.string ⟨#[108,101,102,116]⟩,.string ⟨#[114,105,103,104,116]⟩,.string ⟨#[102,117,108,108]⟩,.string ⟨#[99,114,111,115,115]⟩] 9)) fun e w'=>e = .returned (.bool true)∧Below W.heap.size W w':=by
 have h:=kind_in k W
 rwa [decide_eq_true hk]at h
theorem kind_no{k:List UInt8}(hk:k∉kinds5)(W:World):Calls Tryz.prog 43 #[.string (str k),.slice (some ⟨W.heap.size,0,none⟩) 5 5] (W.alloc (.cells #[.string ⟨#[105,110,110,101,114]⟩,.string ⟨#[108,101,102,116]⟩,.string ⟨#[114,105,103,104,116]⟩,.string ⟨#[102,117,108,108]⟩,.string ⟨#[99,114,111,115,115]⟩] 9)) fun e w'=>e = .returned (.bool false)∧Below W.heap.size W w':=by
 have h:=kind_in k W
 rwa [decide_eq_false hk]at h
theorem join_no{k:List UInt8}(hk:k∉kinds5)(A B:Option Addr)(n m ca cb:Nat)(i j:Int)(s0:ByteArray)(i1 i2:Int)(s3 s4 s5:ByteArray)(v6:Value)(w:World) :
  Calls Tryz.prog 17 #[.string (str k),.slice A n ca,.slice B m cb,.int .i64 i,.int .i64 j,.agg #[.string s0,.int .i64 i1,.int .i64 i2,.string s3,.string s4,.string s5,v6]] w (ToldR w 1 []):=by
 obtain⟨W1,hW1,q1,z1,r1⟩:=box7 w (.string s0) (.int .i64 i1) (.int .i64 i2) (.string s3) (.string s4) (.string s5) v6;have HW1:=Hi hW1;have R1:=Hi r1;simp only[kinds5,List.mem_cons,List.not_mem_nil,or_false,not_or]at hk;obtain⟨h1,h2,h3,h4,h5⟩:=hk;have HS:=Hi (fun W=>sides_any (str k) false false false false false (word_ne h1) (word_ne h5) (word_ne h2) (word_ne h3) (word_ne h4) W)
 clear h1 h2 h3 h4 h5 hW1 q1 z1 r1;generalize str k=kind at *;go_enter Tryz.func17,Tryz.ntmps17
 go_wp2_with (rw[←HW1.out])
 refine(HS.out W1).mono ?_;rintro e w2 ⟨rfl,b2⟩;dsimp only[sidesB,Bool.false_or];go_wp2_with fail
 go_ret2
 exact⟨none,0,rfl,Hi (LA.nil _ _ _),Hi (bthen R1.out b2)⟩
theorem rjoin_no{k:List UInt8}(hk:k∉kinds5)(A B:Option Addr)(n m ca cb:Nat)(i j:Int)(s0:ByteArray)(i1 i2:Int)(s3 s4 s5:ByteArray)(v6:Value)(w:World) :
  Calls Tryz.prog 18 #[.string (str k),.slice A n ca,.slice B m cb,.int .i64 i,.int .i64 j,.agg #[.string s0,.int .i64 i1,.int .i64 i2,.string s3,.string s4,.string s5,v6]] w (ToldR w 1 []):=by
 obtain⟨W1,hW1,q1,z1,r1⟩:=box7 w (.string s0) (.int .i64 i1) (.int .i64 i2) (.string s3) (.string s4) (.string s5) v6;have HW1:=Hi hW1;have R1:=Hi r1;have HS:=Hi (fun W=>kind_no hk W)
 clear hk hW1 q1 z1 r1;generalize str k=kind at *;go_enter Tryz.func18,Tryz.ntmps18
 go_wp2_with (rw[←HW1.out])
 refine(HS.out W1).mono ?_;rintro e w2 ⟨rfl,b2⟩;go_wp2_with fail
 go_ret2
 exact⟨none,0,rfl,Hi (LA.nil _ _ _),Hi (bthen R1.out b2)⟩
theorem rjoin_la{k:List UInt8}(L F G C lf rt:Bool)(hk:k∈kinds5)(hkl:((str k).toList == [108,101,102,116])=L)(hkf:((str k).toList == [102,117,108,108])=F)(hkr:((str k).toList == [114,105,103,104,116])=G)(hkc:((str k).toList == [99,114,111,115,115])=C)(hlf:lf=(L || F))(hrt:rt=(G || F))(t:List BV.V→Int×Bool)(hct:C=true→∀ r,t r=(0,true))
  {a b:List (List BV.V)}{A B:Option Addr}{n ca m cb wa wb:Nat}{S:Nat→Prop}{e:E}{x:Value}{w:World}(ha:LA w A n ca a)(hb:LA w B m cb b)(hx:EAt S w e x)(hla:n≤500)(hlb:m≤500)(hwa:∀ r∈a,r.length≤60)(hwb:∀ r∈b,r.length≤60)(hna:wa≤60)(hnb:wb≤60)(hask:C=false→AskJ w x t a b) :
  Calls Tryz.prog 18 #[.string (str k),.slice A n ca,.slice B m cb,.int .i64 wa,.int .i64 wb,x] w (ToldR w (errsP t (pairsP a b)) (JRes t lf rt a b wa wb)):=by
 obtain⟨A1,c1,rfl,hs⟩:=hx;obtain⟨ra,rfl,rfl,-,h1,-⟩:=ha;obtain⟨rb,rfl,rfl,-,h2,-⟩:=hb;unfold eVal at hask ⊢;exact(rjoin_kind (str k) L F G C lf rt ra rb A B ca cb wa wb _ _ _ _ _ _ _ t w (fun W=>kind_yes hk W) hkl hkf hkr hkc hlf hrt hct h1 h2 hla hlb (mem_xs rfl hwa) (mem_xs rfl hwb) hna hnb hask).mono fun _ _ h=>told_of h
theorem askJ_of{S:Nat→Prop}{e:E}{xv:Value}{w:World}(hx:EAt S w e xv){a b:List (List BV.V)}(hw:∀ x∈a,∀ y∈b,(x++y).length≤100000)(hf:∀ x∈a,∀ y∈b,e.fit deedP (x++y))(hg:∀ x∈a,∀ y∈b,e.good (x++y).length=true)(hz:e.size≤900):AskJ w xv (truP e) a b:=fun x h1 y h2 W A c hb hr=>rtruth_e (x++y) (hw x h1 y h2) e xv S W A c (hx.later hb) hr (hf x h1 y h2) (hg x h1 y h2) hz
theorem jres_len(t:List BV.V→Int×Bool)(lf rt:Bool){a b:List (List BV.V)}(wa wb:Nat)(ha:a.length≤30)(hb:b.length≤30):(JRes t lf rt a b wa wb).length≤1000000:=by
 unfold JRes
 split
 ·have:=jl_len t lf (a:=a) (b:=b) (List.replicate wa zW) (List.replicate wb zW) rt ha hb
  omega
 ·simp
theorem jres_wide{t:List BV.V→Int×Bool}(lf rt:Bool){a b:List (List BV.V)}{wa wb:Nat}(ha:Ev a wa)(hb:Ev b wb)(h:wa+wb≤100000):∀ r∈JRes t lf rt a b wa wb,r.length≤100000:=by
 intro r hr;unfold JRes at hr
 split at hr
 ·rw[jrows_wide ha.wide hb.wide (by simp) (by simp) r hr];exact h
 ·simp at hr
theorem joins_both(k:List UInt8){la lb:List (List BV.V)}{A B:Option Addr}{n ca m cb wa wb:Nat}{S:Nat→Prop}{e:E}{x:Value}{w:World}(ha:LA w A n ca la)(hb:LA w B m cb lb)(hx:EAt S w e x)(hE:SC.Env w)(va:Ev la wa)(vb:Ev lb wb)(hwa:wa≤5)(hwb:wb≤5)(ho:okB ((wa:Int)+wb) e=true)(hin:e.ints=true) :
  ∃ (er:Int) (l:List (List BV.V)),l.length≤1000000∧(∀ r∈l,r.length≤100000)∧∀ W,Below w.heap.size w W →
   Calls Tryz.prog 17 #[.string (str k),.slice A n ca,.slice B m cb,.int .i64 wa,.int .i64 wb,x] W (ToldR W er l)∧Calls Tryz.prog 18 #[.string (str k),.slice A n ca,.slice B m cb,.int .i64 wa,.int .i64 wb,x] W (ToldR W er l):=by
 have hn:n≤30:=by rw[←ha.len];exact va.many
 have hm:m≤30:=by rw[←hb.len];exact vb.many
 have wA:∀ r∈la,r.length≤60:=fun r hr=>by rw[va.wide r hr];omega
 have wB:∀ r∈lb,r.length≤60:=fun r hr=>by rw[vb.wide r hr];omega
 have hf:=pair_fit va vb ho hin;obtain⟨hz,-,hgd,-⟩:=okB_facts ho
 have hg:∀ x∈la,∀ y∈lb,e.good (x++y).length=true:=fun x h1 y h2=>by
  rw[List.length_append,va.wide x h1,vb.wide y h2]
  simpa using hgd
 have hwd:∀ x∈la,∀ y∈lb,(x++y).length≤100000:=fun x h1 y h2=>by
  rw[List.length_append,va.wide x h1,vb.wide y h2];omega
 have key:∀ (o:List UInt8) (L F G lf rt:Bool),o∈kinds5→((str o).toList == [108,101,102,116])=L→((str o).toList == [102,117,108,108])=F→((str o).toList == [114,105,103,104,116])=G→((str o).toList == [99,114,111,115,115])=false→lf=(L || F)→rt=(G || F)→(∀ W,Calls Tryz.prog 40 #[.string (str o)] W fun e w'=>e = .returned (.tuple #[.bool lf,.bool rt,.bool true])∧Below W.heap.size W w')→∃ (er:Int) (l:List (List BV.V)),l.length≤1000000∧(∀ r∈l,r.length≤100000)∧∀ W,Below w.heap.size w W →
   Calls Tryz.prog 17 #[.string (str o),.slice A n ca,.slice B m cb,.int .i64 wa,.int .i64 wb,x] W (ToldR W er l)∧Calls Tryz.prog 18 #[.string (str o),.slice A n ca,.slice B m cb,.int .i64 wa,.int .i64 wb,x] W (ToldR W er l):=by
  intro o L F G lf rt h1 h2 h3 h4 h5 h6 h7 h8;refine⟨errsP (truP e) (pairsP la lb),JRes (truP e) lf rt la lb wa wb,jres_len _ _ _ _ _ va.many vb.many,jres_wide _ _ va vb (by omega),fun W hW=>⟨?_,?_⟩⟩
  ·exact join_la (str o) lf rt h8 h5 (ha.later hW) (hb.later hW) (hx.later hW) (hE.later hW) (by omega) (by omega) wA wB (by omega) (by omega) hf
  ·exact rjoin_la L F G false lf rt h1 h2 h3 h4 h5 h6 h7 (truP e) (fun h=>Bool.noConfusion h) (ha.later hW) (hb.later hW) (hx.later hW) (by omega) (by omega) wA wB (by omega) (by omega) (fun _=>askJ_of (hx.later hW) hwd hf hg (by omega))
 by_cases hk:k∈kinds5
 ·have hk':=hk
  simp only[kinds5,List.mem_cons,List.not_mem_nil,or_false]at hk';rcases hk' with rfl | rfl | rfl | rfl | rfl
  ·exact key kInner false false false false false hk (word_ne (by decide)) (word_ne (by decide)) (word_ne (by decide)) (word_ne (by decide)) rfl rfl sidesInner
  ·exact key kLeft true false false true false hk (by rw[Lib.toList_data];rfl) (word_ne (by decide)) (word_ne (by decide)) (word_ne (by decide)) rfl rfl sidesLeft
  ·exact key kRight false false true false true hk (word_ne (by decide)) (word_ne (by decide)) (by rw[Lib.toList_data];rfl) (word_ne (by decide)) rfl rfl sidesRight
  ·exact key kFull false true false true true hk (word_ne (by decide)) (by rw[Lib.toList_data];rfl) (word_ne (by decide)) (word_ne (by decide)) rfl rfl sidesFull
  ·refine⟨0,pairsP la lb,by have:=pl_len va.many vb.many;omega,fun r hr=>by rw[pair_wide va.wide vb.wide r hr];omega,fun W hW=>⟨?_,?_⟩⟩
   ·exact cross_la (ha.later hW) (hb.later hW) (hx.later hW) (hE.later hW) (by omega) (by omega) wA wB (by omega) (by omega)
   ·have h:=rjoin_la (k:=kCross) (wa:=wa) (wb:=wb) false false false true false false hk (word_ne (by decide)) (word_ne (by decide)) (word_ne (by decide)) (by rw[Lib.toList_data];rfl) rfl rfl (fun _=>(0,true)) (fun _ _=>rfl) (ha.later hW) (hb.later hW) (hx.later hW) (by omega) (by omega) wA wB (by omega) (by omega) (fun h=>Bool.noConfusion h)
    rw[cross_none,cross_res]at h;exact h
 ·obtain⟨A1,c1,rfl,-⟩:=hx
  unfold eVal;exact⟨1,[],by simp,by simp,fun W _=>⟨join_no hk A B n m ca cb _ _ _ _ _ _ _ _ _ W,rjoin_no hk A B n m ca cb _ _ _ _ _ _ _ _ _ W⟩⟩
theorem joins_law(kd:List UInt8)(rs ss:List BV.R)(e:E)(W1 W2:Int)(A B:Option Addr)(ca cb:Nat)(xv:Value)(S:Nat→Prop)(w:World)(hE:SC.Env w)(hE':BV.Env w)(ha:BV.RowsAt w w.heap.size A rs)(hb:BV.RowsAt w w.heap.size B ss)(hla:rs.length≤140737488355328)(hlb:ss.length≤140737488355328)(hsa:BV.Small rs)(hsb:BV.Small ss)(hca:∀ r∈rs,r.xs.length≤r.c)(hcb:∀ r∈ss,r.xs.length≤r.c)
  (hia:∀ r∈rs,∀ v∈r.xs,-9223372036854775808≤v.i∧v.i≤9223372036854775807)(hib:∀ r∈ss,∀ v∈r.xs,-9223372036854775808≤v.i∧v.i≤9223372036854775807)(hx:EAt S w e xv)(hin:e.ints=true) :
  Calls Tryz.prog 4 #[.string (str kd),.agg #[.int .i64 W1,.slice A rs.length ca],.agg #[.int .i64 W2,.slice B ss.length cb],xv] w fun q w'=>q = .returned (.bool true)∧Below w.heap.size w w':=by
 obtain⟨A7,c7,rfl,hs7⟩:=hx;have hEV1:=Hi (fun W (hb:Below w.heap.size w W)=>even_la W1 rs A ca W (rowsL ha hb) hla hsa hca)
 have hEV2:=Hi (fun W (hc:Below w.heap.size w W)=>even_la W2 ss B cb W (rowsL hb hc) hlb hsb hcb)
 have HX:=Hi (fun W (hb:Below w.heap.size w W)=>(show EAt S W e (.agg #[.string (str e.op),.int .i64 e.v.k,.int .i64 e.v.i,.string (str e.v.s),.string (str e.tb),.string (str e.nm),.slice A7 e.l.length c7]) from⟨A7,c7,rfl,sub_later hs7 hb⟩))
 have HS7:=Hi hs7;have HLV:=Hi (fun W (hb:Below w.heap.size w W)=>liveR_any W (hE.later hb) (hE'.below hb hE'.size))
 have HE:=Hi hE;obtain⟨wa,hwa⟩:∃ wa,wa=evW W1:=⟨_,rfl⟩;obtain⟨wb,hwb⟩:∃ wb,wb=evW W2:=⟨_,rfl⟩;have hwa5:wa≤5:=by rw[hwa];exact(evW_eq W1).2
 have hwb5:wb≤5:=by rw[hwb];exact(evW_eq W2).2
 obtain⟨la,hla'⟩:∃ la,la=(rs.map BV.R.xs).map (evR wa):=⟨_,rfl⟩;obtain⟨lb,hlb'⟩:∃ lb,lb=(ss.map BV.R.xs).map (evR wb):=⟨_,rfl⟩;have HVA:Hid (evOk rs=true→Ev la wa):=Hi fun h=>by rw[hla'];exact ev_of h hia wa
 have HVB:Hid (evOk ss=true→Ev lb wb):=Hi fun h=>by rw[hlb'];exact ev_of h hib wb
 have HIN:=Hi hin;have HBD:=Hi (fun(V:Int) (W:World) (g:Nat) (hs:Sub (fun _=>True) W (.mk [] v0 [] [] [e]) (some ⟨g,0,none⟩) 1)=>bound_any V [e] v0 (some ⟨g,0,none⟩) 1 (fun _=>True) W hs)
 unfold EvenT at hEV1 hEV2;rw[←hwa,←hla']at hEV1;rw[←hwb,←hlb']at hEV2;simp only[List.all_cons,List.all_nil,Bool.and_true,List.length_cons,List.length_nil]at HBD;generalize rs.length=n at *;generalize ss.length=m at *;obtain⟨W0,hW0⟩:∃ W0:World,W0=((w.alloc (.cells #[.int .i64 W1,.slice A n ca] 24)).alloc (.cells #[.int .i64 W2,.slice B m cb] 24)).alloc (.cells #[.string (str e.op),.int .i64 e.v.k,.int .i64 e.v.i,.string (str e.v.s),.string (str e.tb),.string (str e.nm),.slice A7 e.l.length c7] 29):=⟨_,rfl⟩;have b0:Below w.heap.size w W0:=by rw[hW0];exact((one_alloc w _).alloc (by simp) _).alloc (by simp;omega) _
 have HC:Hid (∀ W',Below W0.heap.size W0 W'→(W'.cell? ⟨w.heap.size,0,none⟩=some (.int .i64 W1)∧W'.cell? ⟨w.heap.size,1,none⟩=some (.slice A n ca)∧W'.cell? ⟨w.heap.size+1,0,none⟩=some (.int .i64 W2)∧W'.cell? ⟨w.heap.size+1,1,none⟩=some (.slice B m cb)∧W'.cell? ⟨w.heap.size+2,0,none⟩=some (.string (str e.op))∧W'.cell? ⟨w.heap.size+2,1,none⟩=some (.int .i64 e.v.k)∧W'.cell? ⟨w.heap.size+2,2,none⟩=some (.int .i64 e.v.i)∧W'.cell? ⟨w.heap.size+2,3,none⟩=some (.string (str e.v.s))∧W'.cell? ⟨w.heap.size+2,4,none⟩=some (.string (str e.tb))∧W'.cell? ⟨w.heap.size+2,5,none⟩=some (.string (str e.nm))∧W'.cell? ⟨w.heap.size+2,6,none⟩=some (.slice A7 e.l.length c7))):=Hi fun W' hb=>by
  have h1:=heap_alloc_new w (.cells #[.int .i64 W1,.slice A n ca] 24);have h2:=heap_alloc_new (w.alloc (.cells #[.int .i64 W1,.slice A n ca] 24)) (.cells #[.int .i64 W2,.slice B m cb] 24);have h3:=heap_alloc_new ((w.alloc (.cells #[.int .i64 W1,.slice A n ca] 24)).alloc (.cells #[.int .i64 W2,.slice B m cb] 24)) (.cells #[.string (str e.op),.int .i64 e.v.k,.int .i64 e.v.i,.string (str e.v.s),.string (str e.tb),.string (str e.nm),.slice A7 e.l.length c7] 29);have z:W0.heap.size=w.heap.size+3:=by rw[hW0];simp
  have g1:W0.heap[w.heap.size]? = some (.cells #[.int .i64 W1,.slice A n ca] 24 (0,0)):=by rw[hW0,heap_alloc_old _ _ (by simp;omega),heap_alloc_old _ _ (by simp)];exact h1
  have g2:W0.heap[w.heap.size+1]? = some (.cells #[.int .i64 W2,.slice B m cb] 24 (0,0)):=by rw[hW0,heap_alloc_old _ _ (by simp)];simpa using h2
  have g3:W0.heap[w.heap.size+2]? = some (.cells #[.string (str e.op),.int .i64 e.v.k,.int .i64 e.v.i,.string (str e.v.s),.string (str e.tb),.string (str e.nm),.slice A7 e.l.length c7] 29 (0,0)):=by rw[hW0];simpa using h3
  have k1:=(hb.block w.heap.size (by omega)).trans g1
  have k2:=(hb.block (w.heap.size+1) (by omega)).trans g2
  have k3:=(hb.block (w.heap.size+2) (by omega)).trans g3
  refine⟨?_,?_,?_,?_,?_,?_,?_,?_,?_,?_,?_⟩
  ·rw[Lib.cell_of_heap k1];rfl
  ·rw[Lib.cell_of_heap k1];rfl
  ·rw[Lib.cell_of_heap k2];rfl
  ·rw[Lib.cell_of_heap k2];rfl
  all_goals (rw[Lib.cell_of_heap k3];rfl)
 have HB0:=Hi b0;have HW0:=Hi hW0;have hsub1:Hid (∀ W,Below w.heap.size w W→Sub (fun _=>True) (W.alloc (.cells #[.string (str e.op),.int .i64 e.v.k,.int .i64 e.v.i,.string (str e.v.s),.string (str e.tb),.string (str e.nm),.slice A7 e.l.length c7] 29)) (.mk [] v0 [] [] [e]) (some ⟨W.heap.size,0,none⟩) 1):=Hi fun W hb=>oneS e A7 c7 (sub_later HS7.out hb) [] v0 [] []
 unfold eVal;clear ha hb hla hlb hsa hsb hca hcb hia hib hs7 hE hE' hwa hwb hla' hlb' hin b0 hW0 HS7;obtain⟨kind,hkind⟩:∃ kind,kind=str kd:=⟨_,rfl⟩;have HKD:=Hi hkind;rw[←hkind];clear hkind;generalize str e.op=s0 at *;generalize e.v.k=i1 at *;generalize e.v.i=i2 at *;generalize str e.v.s=s3 at *;generalize str e.tb=s4 at *;generalize str e.nm=s5 at *;generalize e.l.length=l7 at *;cases h1:evOk rs
 ·rw[h1]at hEV1
  clear h1;go_enter Tryz.func4,Tryz.ntmps4;go_wp2_with fail;rw[←HW0.out];refine(HLV.out W0 HB0.out).mono ?_;rintro q w1 ⟨rfl,b1⟩;have BW:=Hi b1;have BB:=Hi (bthen HB0.out b1);obtain⟨c0,c1,-,-,-,-,-,-,-,-,-⟩:=HC.out w1 BW.out;clear b1 HW0 HLV;go_wp2_with fail;refine(hEV1.out w1 BB.out).mono ?_;rintro q w2 ⟨va,rfl,HLa,b2⟩;have BW:=Hi (bthen BW.out b2.out);have BB:=Hi (bthen BB.out b2.out);have B2:=Hi b2.out;obtain⟨-,-,c2,c3,-,-,-,-,-,-,-⟩:=HC.out w2 BW.out;clear b2 c0 c1 hEV1;go_wp2_with fail;refine(hEV2.out w2 BB.out).mono ?_;rintro q w3 ⟨vb,rfl,HLb,b3⟩;have BW:=Hi (bthen BW.out b3.out);have BB:=Hi (bthen BB.out b3.out);have B3:=Hi b3.out;obtain⟨-,-,-,-,e0,e1,e2,e3,e4,e5,e6⟩:=HC.out w3 BW.out;clear b3 c2 c3 hEV2;cases evOk ss
  ·go_wp2_with fail
   go_ret
   exact⟨rfl,BB.out⟩
  ·go_wp2_with fail
   go_ret
   exact⟨rfl,BB.out⟩
 rw[h1]at hEV1;cases h2:evOk ss
 ·rw[h2]at hEV2
  clear h2;go_enter Tryz.func4,Tryz.ntmps4;go_wp2_with fail;rw[←HW0.out];refine(HLV.out W0 HB0.out).mono ?_;rintro q w1 ⟨rfl,b1⟩;have BW:=Hi b1;have BB:=Hi (bthen HB0.out b1);obtain⟨c0,c1,-,-,-,-,-,-,-,-,-⟩:=HC.out w1 BW.out;clear b1 HW0 HLV;go_wp2_with fail;refine(hEV1.out w1 BB.out).mono ?_;rintro q w2 ⟨va,rfl,HLa,b2⟩;have BW:=Hi (bthen BW.out b2.out);have BB:=Hi (bthen BB.out b2.out);have B2:=Hi b2.out;obtain⟨-,-,c2,c3,-,-,-,-,-,-,-⟩:=HC.out w2 BW.out;clear b2 c0 c1 hEV1;go_wp2_with fail;refine(hEV2.out w2 BB.out).mono ?_;rintro q w3 ⟨vb,rfl,HLb,b3⟩;have BW:=Hi (bthen BW.out b3.out);have BB:=Hi (bthen BB.out b3.out);have B3:=Hi b3.out;obtain⟨-,-,-,-,e0,e1,e2,e3,e4,e5,e6⟩:=HC.out w3 BW.out;clear b3 c2 c3 hEV2;go_wp2_with fail
  go_ret
  exact⟨rfl,BB.out⟩
 rw[h2]at hEV2;cases h3:okB ((wa:Int)+wb) e
 ·have HBD:=Hi (fun W g hs=>by have:=HBD.out ((wa:Int)+wb) W g hs;rw[h3]at this;exact this)
  go_enter Tryz.func4,Tryz.ntmps4;go_wp2_with fail;rw[←HW0.out];refine(HLV.out W0 HB0.out).mono ?_;rintro q w1 ⟨rfl,b1⟩;have BW:=Hi b1;have BB:=Hi (bthen HB0.out b1);obtain⟨c0,c1,-,-,-,-,-,-,-,-,-⟩:=HC.out w1 BW.out;clear b1 HW0 HLV;go_wp2_with fail;refine(hEV1.out w1 BB.out).mono ?_;rintro q w2 ⟨va,rfl,HLa,b2⟩;have BW:=Hi (bthen BW.out b2.out);have BB:=Hi (bthen BB.out b2.out);have B2:=Hi b2.out;obtain⟨-,-,c2,c3,-,-,-,-,-,-,-⟩:=HC.out w2 BW.out;clear b2 c0 c1 hEV1;go_wp2_with fail;refine(hEV2.out w2 BB.out).mono ?_;rintro q w3 ⟨vb,rfl,HLb,b3⟩;have BW:=Hi (bthen BW.out b3.out);have BB:=Hi (bthen BB.out b3.out);have B3:=Hi b3.out;obtain⟨-,-,-,-,e0,e1,e2,e3,e4,e5,e6⟩:=HC.out w3 BW.out;clear b3 c2 c3 hEV2;obtain⟨Aa,xa,rfl,hA⟩:=HLa.out trivial;obtain⟨Ab,xb,rfl,hB⟩:=HLb.out trivial;have HA:=Hi (hA.later B3.out);have HB:=Hi hB;have VA:=Hi (HVA.out h1);have VB:=Hi (HVB.out h2);have hwrap:IntKind.i64.wrap ((wa:Int)+wb)=(wa:Int)+wb:=IntWalk.i64_in _ (by omega)
  obtain⟨na,hna⟩:∃ na,na=la.length:=⟨_,rfl⟩;obtain⟨nb,hnb⟩:∃ nb,nb=lb.length:=⟨_,rfl⟩;have hna30:na≤30:=by rw[hna];exact VA.out.many
  have hnb30:nb≤30:=by rw[hnb];exact VB.out.many
  rw[←hna]at HA ⊢;rw[←hnb]at HB ⊢;have HNA:=Hi hna;have HNB:=Hi hnb;clear hA hB hna hnb HLa HLb HVA HVB;go_wp2_with fail;refine(HBD.out (w3.alloc (.cells #[.string s0,.int .i64 i1,.int .i64 i2,.string s3,.string s4,.string s5,.slice A7 l7 c7] 29)) w3.heap.size (hsub1.out w3 BB.out)).mono ?_;rintro q w4 ⟨rfl,b4⟩;have b4:=bthen (one_alloc w3 _) b4;have BW:=Hi (bthen BW.out b4);have BB:=Hi (bthen BB.out b4);have HA:=Hi (HA.out.later b4);have HB:=Hi (HB.out.later b4);obtain⟨-,-,-,-,e0,e1,e2,e3,e4,e5,e6⟩:=HC.out w4 BW.out;clear b4 HBD hsub1 B2 B3;go_wp2_with fail
  go_ret
  exact⟨rfl,BB.out⟩
 have HBD:=Hi (fun W g hs=>by have:=HBD.out ((wa:Int)+wb) W g hs;rw[h3]at this;exact this)
 go_enter Tryz.func4,Tryz.ntmps4;go_wp2_with fail;rw[←HW0.out];refine(HLV.out W0 HB0.out).mono ?_;rintro q w1 ⟨rfl,b1⟩;have BW:=Hi b1;have BB:=Hi (bthen HB0.out b1);obtain⟨c0,c1,-,-,-,-,-,-,-,-,-⟩:=HC.out w1 BW.out;clear b1 HW0 HLV;go_wp2_with fail;refine(hEV1.out w1 BB.out).mono ?_;rintro q w2 ⟨va,rfl,HLa,b2⟩;have BW:=Hi (bthen BW.out b2.out);have BB:=Hi (bthen BB.out b2.out);have B2:=Hi b2.out;obtain⟨-,-,c2,c3,-,-,-,-,-,-,-⟩:=HC.out w2 BW.out;clear b2 c0 c1 hEV1;go_wp2_with fail;refine(hEV2.out w2 BB.out).mono ?_;rintro q w3 ⟨vb,rfl,HLb,b3⟩;have BW:=Hi (bthen BW.out b3.out);have BB:=Hi (bthen BB.out b3.out);have B3:=Hi b3.out;obtain⟨-,-,-,-,e0,e1,e2,e3,e4,e5,e6⟩:=HC.out w3 BW.out;clear b3 c2 c3 hEV2;obtain⟨Aa,xa,rfl,hA⟩:=HLa.out trivial;obtain⟨Ab,xb,rfl,hB⟩:=HLb.out trivial;have HA:=Hi (hA.later B3.out);have HB:=Hi hB;have VA:=Hi (HVA.out h1);have VB:=Hi (HVB.out h2);have hwrap:IntKind.i64.wrap ((wa:Int)+wb)=(wa:Int)+wb:=IntWalk.i64_in _ (by omega)
 obtain⟨na,hna⟩:∃ na,na=la.length:=⟨_,rfl⟩;obtain⟨nb,hnb⟩:∃ nb,nb=lb.length:=⟨_,rfl⟩;have hna30:na≤30:=by rw[hna];exact VA.out.many
 have hnb30:nb≤30:=by rw[hnb];exact VB.out.many
 rw[←hna]at HA ⊢;rw[←hnb]at HB ⊢;have HNA:=Hi hna;have HNB:=Hi hnb;clear hA hB hna hnb HLa HLb HVA HVB;go_wp2_with fail;refine(HBD.out (w3.alloc (.cells #[.string s0,.int .i64 i1,.int .i64 i2,.string s3,.string s4,.string s5,.slice A7 l7 c7] 29)) w3.heap.size (hsub1.out w3 BB.out)).mono ?_;rintro q w4 ⟨rfl,b4⟩;have b4:=bthen (one_alloc w3 _) b4;have BW:=Hi (bthen BW.out b4);have BB:=Hi (bthen BB.out b4);have HA:=Hi (HA.out.later b4);have HB:=Hi (HB.out.later b4);obtain⟨-,-,-,-,e0,e1,e2,e3,e4,e5,e6⟩:=HC.out w4 BW.out;clear b4 HBD hsub1 B2 B3;have HX4:=Hi (HX.out w4 BB.out);obtain⟨er,l,hl,hw,hc⟩:=joins_both kd HA.out HB.out HX4.out (HE.out.later BB.out) VA.out VB.out hwa5 hwb5 h3 HIN.out;have HJ:=Hi hc;have HW:=Hi hw;have HL:=Hi hl;rw[←HKD.out]at HJ;clear hc hw hl h3 HX4 HX;go_wp2_with fail;refine((HJ.out w4 (Below.refl _ _)).1).mono ?_;rintro q w5 ⟨A5,k5,rfl,L5,B5⟩;have BW:=Hi (bthen BW.out B5.out);have BB:=Hi (bthen BB.out B5.out);have HJ2:=Hi ((HJ.out w5 B5.out).2);clear e0 e1 e2 e3 e4 e5 e6 B5 HJ;obtain⟨-,-,-,-,e0,e1,e2,e3,e4,e5,e6⟩:=HC.out w5 BW.out;go_wp2_with fail;refine(HJ2.out).mono ?_;rintro q w6 ⟨A6,k6,rfl,L6,B6⟩;have HS:=Hi (samel_la er (L5.out.later B6.out) L6.out rfl HL.out HW.out);have BB:=Hi (bthen BB.out B6.out);clear e0 e1 e2 e3 e4 e5 e6 B6 HJ2 L5 L6;go_wp2_with fail;refine(HS.out).mono ?_;rintro q w7 ⟨rfl,b7⟩;go_wp2_with fail
 go_ret
 exact⟨rfl,bthen BB.out b7⟩
theorem joins_bytes(kd:ByteArray)(rs ss:List BV.R)(e:E)(W1 W2:Int)(A B:Option Addr)(ca cb:Nat)(xv:Value)(S:Nat→Prop)(w:World)(hE:SC.Env w)(hE':BV.Env w)(ha:BV.RowsAt w w.heap.size A rs)(hb:BV.RowsAt w w.heap.size B ss)(hla:rs.length≤140737488355328)(hlb:ss.length≤140737488355328)(hsa:BV.Small rs)(hsb:BV.Small ss)(hca:∀ r∈rs,r.xs.length≤r.c)(hcb:∀ r∈ss,r.xs.length≤r.c)
  (hia:∀ r∈rs,∀ v∈r.xs,-9223372036854775808≤v.i∧v.i≤9223372036854775807)(hib:∀ r∈ss,∀ v∈r.xs,-9223372036854775808≤v.i∧v.i≤9223372036854775807)(hx:EAt S w e xv)(hin:e.ints=true) :
  Calls Tryz.prog 4 #[.string kd,.agg #[.int .i64 W1,.slice A rs.length ca],.agg #[.int .i64 W2,.slice B ss.length cb],xv] w fun q w'=>q = .returned (.bool true)∧Below w.heap.size w w':=by
 have h:=joins_law kd.data.toList rs ss e W1 W2 A B ca cb xv S w hE hE' ha hb hla hlb hsa hsb hca hcb hia hib hx hin
 rwa [show str kd.data.toList=kd from by simp[str]]at h
end Go.Proofs.YtcicpjgnpcnnmaaGreatDoor
