import Derived.Test.YtcicpjgnpcnnmaaGreatDoorQ29
set_option maxRecDepth 100000
set_option maxHeartbeats 16000000
set_option linter.unusedSimpArgs false
set_option linter.unusedVariables false
namespace Go.Proofs.YtcicpjgnpcnnmaaGreatDoor
open Go.RowKit
theorem OwnR.mono{w:World}{B B':Nat}{v:Value}{l:List (List BV.V)}(h:OwnR w B v l)(hB:B'≤B):OwnR w B' v l:=by
 obtain⟨rs,hl,ho,hr⟩:=h;refine⟨rs,hl,World.ownsRow.mono ho hB,fun r hr'=>⟨fun h0 => ?_,(hr r hr').2⟩⟩
 obtain⟨b,off,h1,h2,h3,h4,h5⟩:=(hr r hr').1 h0;exact⟨b,off,h1,by omega,h3,h4,h5⟩
structure JS(w wr:World)(g q:Nat)(c0 c1 c2 c3 c4 c5 c6:Value)(fs:List Bool)(o:Value)(l:List (List BV.V)):Prop where
 own:OwnR wr (q+1) o l
 fl:Flags wr q fs
 box:B7 wr g c0 c1 c2 c3 c4 c5 c6
 bel:Below w.heap.size w wr
 gq:g < q
 wq:w.heap.size≤q
section
variable {w wr w' : World} {g q : Nat} {c0 c1 c2 c3 c4 c5 c6 : Value} {fs : List Bool} {o : Value} {l : List (List BV.V)}
theorem JS.later(h:JS w wr g q c0 c1 c2 c3 c4 c5 c6 fs o l)(hb:Below wr.heap.size wr w'):JS w w' g q c0 c1 c2 c3 c4 c5 c6 fs o l :=
 ⟨h.own.later hb,h.fl.same (hb.block q h.fl.lt),h.box.later hb,bthen h.bel hb,h.gq,h.wq⟩
theorem JS.alloc(h:JS w wr g q c0 c1 c2 c3 c4 c5 c6 fs o l)(ob:Obj):JS w (wr.alloc ob) g q c0 c1 c2 c3 c4 c5 c6 fs o l:=h.later ((Below.refl _ _).alloc (Nat.le_refl _) _)
theorem JS.lt(h:JS w wr g q c0 c1 c2 c3 c4 c5 c6 fs o l):q < wr.heap.size:=h.fl.lt
theorem JS.off(h:JS w wr g q c0 c1 c2 c3 c4 c5 c6 fs o l){v:Value}{xs:List BV.V}{w1:World}{B:Nat}(hv:OwnV w1 B v xs)(hB:wr.heap.size≤B):∃ A c,v = .slice A xs.length c∧RowOff w1 (q+1) o.ownBlock A c xs :=
 hv.off (by have:=h.lt;omega) fun k hk=>by have:=(h.own.lt k hk).2;omega
theorem JS.app(h:JS w wr g q c0 c1 c2 c3 c4 c5 c6 fs o l)(A:Option Addr)(c:Nat)(xs:List BV.V)(hx:RowOff wr (q+1) o.ownBlock A c xs)(hm:l.length≤1000000) :
  ∃ v' w',(Builtin.append_ #[22,22] 22 #[o,.slice (some ⟨wr.heap.size,0,none⟩) 1 1]).run Tryz.prog (wr.alloc (.cells #[.slice A xs.length c] 39)) = .ok v' w'∧Hid (JS w w' g q c0 c1 c2 c3 c4 c5 c6 fs v' (l ++ [xs])):=by
 have hlt:=h.lt;obtain⟨v',w',h1,h2,h3⟩:=ownR_app h.own A c xs hx (by omega) hm
 have ha:=(Below.refl wr.heap.size wr).alloc (Nat.le_refl _) (.cells #[.slice A xs.length c] 39)
 have hblk:∀ k,k≤q→w'.heap[k]? = wr.heap[k]? := fun k hk=>by
  rw[h3.block k (by simp;omega) (fun e=>by have:=(h.own.lt k e.symm).1;omega)]
  exact ha.block k (by omega)
 exact⟨v',w',h1,Hi ⟨h2,h.fl.same (hblk q (Nat.le_refl _)),h.box.same (hblk g (by have:=h.gq;omega)),ownR_below h.bel h.own h3 (by have:=h.wq;omega) h.bel.size,h.gq,h.wq⟩⟩
theorem JS.set(h:JS w wr g q c0 c1 c2 c3 c4 c5 c6 fs o l)(j:Nat)(b:Bool):JS w (wr.setCell ⟨q,j,none⟩ (.bool b)) g q c0 c1 c2 c3 c4 c5 c6 (fs.set j b) o l:=by
 have hoth:∀ k,k≠q→(wr.setCell ⟨q,j,none⟩ (.bool b)).heap[k]? = wr.heap[k]? := fun k hk=>Below.heap_setCell _ _ _ _ hk
 exact⟨h.own.same (by simp) fun k hk _=>hoth k (by omega),h.fl.set j b,h.box.same (hoth g (by have:=h.gq;omega)),h.bel.setCell (p:=⟨q,j,none⟩) h.wq _,h.gq,h.wq⟩
end
def Rows2(w:World)(er:Int)(l:List (List BV.V))(q:Ending)(w':World):Prop:=∃ v,q = .returned (.tuple #[v,.int .i64 er])∧Hid (OwnR w' w.heap.size v l)∧Hid (Below w.heap.size w w')
theorem lenS_two(a b:BV.R):lenS [a,b]=a.xs.length+b.xs.length:=by simp[lenS]
theorem all_two{P:BV.R→Prop}{a b:BV.R}(h1:P a)(h2:P b):∀ r∈[a,b],P r:=by
 intro r hr;rcases List.mem_cons.1 hr with rfl | h
 ·exact h1
 ·rw[List.mem_singleton.1 h];exact h2
theorem joined_two(a b:BV.R)(w:World)(ha:BV.RowAt w w.heap.size a.A a.xs)(hb:BV.RowAt w w.heap.size b.A b.xs)(h1:a.xs.length≤100000)(h2:b.xs.length≤100000) :
  Calls Tryz.prog 33 #[.slice (some ⟨w.heap.size,0,none⟩) 2 2] (w.alloc (.cells #[.slice a.A a.xs.length a.c,.slice b.A b.xs.length b.c] 39)) fun e w'=>∃ v,e = .returned v∧Hid (OwnV w' w.heap.size v (a.xs++b.xs))∧Hid (Below w.heap.size w w'):=by
 have hr:=BV.rows_made w [a,b] (all_two ha hb) #[.slice a.A a.xs.length a.c,.slice b.A b.xs.length b.c] (by simp[BV.R.val]) 39
 have hA:=(Below.refl w.heap.size w).alloc (Nat.le_refl _) (.cells #[.slice a.A a.xs.length a.c,.slice b.A b.xs.length b.c] 39);refine(joined_any [a,b] (some ⟨w.heap.size,0,none⟩) 2 _ hr (by rw[lenS_two];omega) (by simp)).mono ?_
 rintro e w' ⟨v,rfl,HO,HB⟩;have e1 : [a,b].flatMap BV.R.xs=a.xs++b.xs:=by simp
 rw[e1]at HO;exact⟨v,rfl,Hi (World.ownsRow.mono HO.out (by simp)),Hi (bthen hA HB.out)⟩
def Asks(w:World)(xv:Value)(t:List BV.V→Int×Bool)(a b:List (List BV.V)):Prop:=∀ x∈a,∀ y∈b,∀ W A c,Below w.heap.size w W→BV.RowAt W W.heap.size A (x++y)→Calls Tryz.prog 14 #[xv,.slice A (x++y).length c] W fun q w'=>q = .returned (.tuple #[.bool (t (x++y)).2,.int .i64 (t (x++y)).1])∧Below W.heap.size W w'
def JRes(t:List BV.V→Int×Bool)(lf rt:Bool)(a b:List (List BV.V))(wa wb:Nat):List (List BV.V):=if errsP t (pairsP a b)=0 then jRows t lf rt a b (List.replicate wa zW) (List.replicate wb zW)else []
theorem jleft_len(t:List BV.V→Int×Bool)(lf:Bool)(a b:List (List BV.V))(nb:List BV.V):(jLeft t lf a b nb).length≤a.length*(b.length+1):=by
 unfold jLeft
 induction a with
 | nil=>simp
 | cons x l ih =>
  rw[List.flatMap_cons,List.length_append,List.length_cons,Nat.succ_mul]
  have h1:(jOne t lf b nb x).length≤b.length+1:=by
   unfold jOne;rw[List.length_append,List.length_map];have h2:=List.length_filter_le (hitP t x) b
   split <;> simp <;> omega
  omega
theorem go_len(t:List BV.V→Int×Bool)(x:List BV.V)(b:List (List BV.V))(j:Nat):(goP t x b j).length≤b.length:=by
 unfold goP;rw[List.length_map];have h1:=List.length_filter_le (hitP t x) (b.take j);rw[List.length_take]at h1
 omega
theorem ri_len(t:List BV.V→Int×Bool)(a b:List (List BV.V))(na:List BV.V)(j:Nat):(riP t a b na j).length≤b.length:=by
 unfold riP;rw[List.length_map];have h1:=List.length_filter_le (fun y=>a.all fun x => !hitP t x y) (b.take j)
 rw[List.length_take]at h1
 omega
theorem take_small{a:List (List BV.V)}{k m:Nat}(h:a.length≤500)(hm:m≤500):(a.take k).length*(m+1)≤250500:=by
 have h1:(a.take k).length≤500:=by rw[List.length_take];omega
 calc (a.take k).length*(m+1)≤500*501:=Nat.mul_le_mul h1 (by omega)
  _=250500:=rfl
theorem join_kind(kind:ByteArray)(lf rt:Bool)(ra rb:List BV.R)(A B:Option Addr)(ca cb wa wb:Nat)(s0:ByteArray)(i1 i2:Int)(s3 s4 s5:ByteArray)(v6:Value)(t:List BV.V→Int×Bool)(w:World)
  (hsides:∀ W,Calls Tryz.prog 40 #[.string kind] W fun e w'=>e = .returned (.tuple #[.bool lf,.bool rt,.bool true])∧Below W.heap.size W w')(hcr:(kind.toList == [99,114,111,115,115])=false)
  (ha:BV.RowsAt w w.heap.size A ra)(hb:BV.RowsAt w w.heap.size B rb)(hla:ra.length≤500)(hlb:rb.length≤500)(hwa:∀ r∈ra,r.xs.length≤60)(hwb:∀ r∈rb,r.xs.length≤60)(hna:wa≤60)(hnb:wb≤60)
  (hask:Asks w (.agg #[.string s0,.int .i64 i1,.int .i64 i2,.string s3,.string s4,.string s5,v6]) t (ra.map BV.R.xs) (rb.map BV.R.xs)) :
  Calls Tryz.prog 17 #[.string kind,.slice A ra.length ca,.slice B rb.length cb,.int .i64 wa,.int .i64 wb,.agg #[.string s0,.int .i64 i1,.int .i64 i2,.string s3,.string s4,.string s5,v6]] w (Rows2 w (errsP t (pairsP (ra.map BV.R.xs) (rb.map BV.R.xs))) (JRes t lf rt (ra.map BV.R.xs) (rb.map BV.R.xs) wa wb)):=by
 obtain⟨n,hn⟩:∃ n,n=ra.length:=⟨_,rfl⟩;obtain⟨m,hm⟩:∃ m,m=rb.length:=⟨_,rfl⟩;obtain⟨a,haa⟩:∃ a,ra.map BV.R.xs=a:=⟨_,rfl⟩;obtain⟨b,hbb⟩:∃ b,rb.map BV.R.xs=b:=⟨_,rfl⟩;have hlA:a.length=n:=by rw[←haa,List.length_map,hn]
 have hlB:b.length=m:=by rw[←hbb,List.length_map,hm]
 have HA:Hid (∀ k (h:k < n),∃ h':k < ra.length,∃ h'':k < a.length,ra[k].xs=a[k]):=Hi fun k h=>⟨by omega,by omega,by subst haa;simp⟩
 have HB:Hid (∀ k (h:k < m),∃ h':k < rb.length,∃ h'':k < b.length,rb[k].xs=b[k]):=Hi fun k h=>⟨by omega,by omega,by subst hbb;simp⟩
 rw[haa,hbb]at hask ⊢;rw[←hn]at hla ⊢;rw[←hm]at hlb ⊢;have HLA:=Hi hlA;have HLB:=Hi hlB;have RA:=Hi ha;have RB:=Hi hb;have WA:=Hi hwa;have WB:=Hi hwb;have HASK:=Hi hask
 have HE:Hid (∀ k j (hk:k < a.length) (hj:j < b.length),(∀ r∈pairsP (a.take k) b,(t r).1=0)→(∀ y∈b.take j,(t (a[k]++y)).1=0)→¬(t (a[k]++b[j])).1=0→errsP t (pairsP a b)=(t (a[k]++b[j])).1∧JRes t lf rt a b wa wb = []):=Hi fun k j hk hj h1 h2 h3=>by
  have h:=errs_at hk hj h1 h2 h3;exact⟨h,by unfold JRes;rw[h,if_neg h3]⟩
 have HZ:Hid ((∀ r∈pairsP (a.take n) b,(t r).1=0)→errsP t (pairsP a b)=0∧JRes t lf rt a b wa wb=jLeft t lf (a.take n) b (List.replicate wb zW)++if rt then riP t a b (List.replicate wa zW) m else []):=Hi fun h=>by
  rw[←hlA,List.take_length]at h ⊢;rw[←hlB,ri_end];have h0:=errs_zero.2 h;exact⟨h0,by unfold JRes;rw[h0,if_pos rfl];rfl⟩
 generalize errsP t (pairsP a b)=ER at *;generalize JRes t lf rt a b wa wb=JR at *;obtain⟨W1,hW1,q1,z1,r1⟩:=box7 w (.string s0) (.int .i64 i1) (.int .i64 i2) (.string s3) (.string s4) (.string s5) v6;have HW1:=Hi hW1;have Q1:=Hi q1;have R1:=Hi r1;clear ha hb hwa hwb hask haa hbb hn hm hlA hlB hW1 q1 r1 z1;go_enter Tryz.func17,Tryz.ntmps17
 go_wp2_with (rw[←HW1.out])
 refine(hsides W1).mono ?_;rintro e w2 ⟨rfl,b2⟩;have Q2:=Hi (Q1.out.later b2);have R2:=Hi (bthen R1.out b2);have hmk:=made_flags m (by omega) w2
 obtain⟨W4,hW4⟩:∃ W4:World,W4=w2.alloc (.cells ((List.replicate m false).map Value.bool).toArray 4):=⟨_,rfl⟩;rw[←hW4]at hmk;have HW4:=Hi hW4;have hq8:w.heap.size < w2.heap.size:=Q2.out.lt
 have J4:Hid (JS w W4 w.heap.size w2.heap.size (.string s0) (.int .i64 i1) (.int .i64 i2) (.string s3) (.string s4) (.string s5) v6 (fl0 t [] b) (.slice none 0 0) (jLeft t lf (a.take 0) b (List.replicate wb zW))):=by
  have hf:(fl0 t [] b)=List.replicate m false:=by
   rw[←HLB.out];unfold fl0;simp only[List.any_nil];exact List.map_const' ..
  have hA:=(Below.refl w2.heap.size w2).alloc (Nat.le_refl _) (.cells ((List.replicate m false).map Value.bool).toArray 4);rw[←hW4]at hA;refine Hi ⟨by simpa [jLeft]using OwnR.nil W4 (w2.heap.size+1),by rw[hf,hW4];exact heap_alloc_new w2 _,Q2.out.later hA,bthen R2.out hA,hq8,by omega⟩
 clear hsides b2 hW4 Q2 R2 Q1 R1 HW1;generalize w2.heap.size=q at *
 go_wp2_with (rw[←HW4.out])
 clear hmk
 go_loopw [45,17] (fun i ov wr=>∃ (k:Nat) (o:Value),o=ov∧k≤n∧i = .int .i64 k∧Hid (JS w wr w.heap.size q (.string s0) (.int .i64 i1) (.int .i64 i2) (.string s3) (.string s4) (.string s5) v6 (fl0 t (a.take k) b) o (jLeft t lf (a.take k) b (List.replicate wb zW)))∧Hid (∀ r∈pairsP (a.take k) b,(t r).1=0)) (fun i _ _=>n - (intOf i).toNat)
 case atStart=>exact⟨0,_,rfl,Nat.zero_le _,rfl,J4,Hi (by simp[pairsP])⟩
 case round =>
  obtain⟨k,o,rfl,hk,rfl,JK,NE⟩:=hrel
  by_cases hlt:k < n
  ·obtain⟨hkx,hka,hkk⟩:=HA.out k hlt
   obtain⟨ba,offa,hAa,hbla,hca⟩:=RA.out.1 (by omega)
   subst hAa;have e1:=(JK.out.bel.cell (p:=⟨ba,_,none⟩) hbla).trans (hca k hkx);unfold BV.R.val at e1;have HX1:=Hi (fun W (hb:Below w.heap.size w W)=>(RA.out.2 ra[k] (List.getElem_mem hkx)).later hb)
   have HX2:=Hi (WA.out ra[k] (List.getElem_mem hkx));have HMEM:=Hi (show a[k]∈a from List.getElem_mem hka)
   have HNX:=Hi (left_next t lf b (List.replicate wb zW) hka);have HPX:=Hi (pairs_next b hka);have HFE:=Hi (fl_end t (a.take k) a[k] b);rw[←take_next hka]at HFE;have HEK:=Hi (fun j (hj:j < b.length) h2 h3=>HE.out k j hka hj NE.out h2 h3)
   have HTL:=Hi (take_small (a:=a) (k:=k) (m:=m) (by rw[HLA.out];exact hla) hlb)
   have HJL:=Hi (jleft_len t lf (a.take k) b (List.replicate wb zW));rw[HLB.out]at HJL;rw[hkk]at HX1 HX2 e1;obtain⟨ax,hax⟩:∃ ax:BV.R,ax=⟨ra[k].A,ra[k].c,a[k]⟩:=⟨_,rfl⟩;generalize ra[k].A=xA at *;generalize ra[k].c=xc at *;generalize a[k]=x at *;clear hca hkk;go_wp2_with fail;obtain⟨wo,rfl⟩:∃ wo:World,wo=wr:=⟨_,rfl⟩
   have JI:Hid (JS w wo w.heap.size q (.string s0) (.int .i64 i1) (.int .i64 i2) (.string s3) (.string s4) (.string s5) v6 (flP t (a.take k) x 0 b) o (jLeft t lf (a.take k) b (List.replicate wb zW)++goP t x b 0)):=by
    rw[fl_start,show goP t x b 0 = [] from rfl,List.append_nil]
    exact JK
   go_loopw [51,17,21] (fun i ov al wr=>∃ (j:Nat) (o:Value),o=ov∧j≤m∧i = .int .i64 j∧al = .bool (alP t x b j)∧Hid (JS w wr w.heap.size q (.string s0) (.int .i64 i1) (.int .i64 i2) (.string s3) (.string s4) (.string s5) v6 (flP t (a.take k) x j b) o (jLeft t lf (a.take k) b (List.replicate wb zW)++goP t x b j))∧Hid (∀ y∈b.take j,(t (x++y)).1=0)) (fun i _ _ _=>m - (intOf i).toNat)
   case atStart=>exact⟨0,_,rfl,Nat.zero_le _,rfl,rfl,JI,Hi (by simp)⟩
   case round =>
    obtain⟨j,o2,rfl,hj,rfl,rfl,JJ,NJ⟩:=hrel
    by_cases hltj:j < m
    ·obtain⟨hjx,hjb,hjj⟩:=HB.out j hltj
     obtain⟨bb,offb,hBb,hblb,hcb⟩:=RB.out.1 (by omega)
     subst hBb;have e2:=(JJ.out.bel.cell (p:=⟨bb,_,none⟩) hblb).trans (hcb j hjx);unfold BV.R.val at e2;have HY1:=Hi ((RB.out.2 rb[j] (List.getElem_mem hjx)).later JJ.out.bel);have HY2:=Hi (WB.out rb[j] (List.getElem_mem hjx));have HYM:=Hi (show b[j]∈b from List.getElem_mem hjb)
     have HER:=Hi (fun h3=>HEK.out j hjb NJ.out h3)
     have HGL:=Hi (go_len t x b j);rw[HLB.out]at HGL;have HFY:=Hi (fun h=>@fl_yes _ t (a.take k) x j b hjb h)
     have HFN:=Hi (fun h=>@fl_no _ t (a.take k) x j b hjb h)
     have HGY:=Hi (fun h=>@go_yes _ t x b j hjb h)
     have HGN:=Hi (fun h=>@go_no _ t x b j hjb h)
     have HAY:=Hi (fun h=>@al_yes _ t x b j hjb h)
     have HAN:=Hi (fun h=>@al_no _ t x b j hjb h)
     have HTN:=Hi (take_next hjb);have HFL:=Hi (fl_len t (a.take k) x j b);rw[HLB.out]at HFL;rw[hjj]at HY1 HY2 e2;have HJ2:=Hi (joined_two ⟨xA,xc,x⟩ ⟨rb[j].A,rb[j].c,b[j]⟩ wr (HX1.out wr JJ.out.bel) HY1.out (Nat.le_trans HX2.out (by decide)) (Nat.le_trans HY2.out (by decide)))
     have HCT:=Hi (HASK.out x HMEM.out b[j] HYM.out);have HIT:Hid ((t (x++b[j])).2=hitP t x b[j]):=Hi rfl;generalize rb[j].A=yA at *;generalize rb[j].c=yc at *;generalize b[j]=y at *;generalize hitP t x y=hit at *;generalize hrr:t (x++y)=tr at *;have HRR:=Hi hrr;clear hcb hjj HY1 HY2 hrr;go_wp2_with fail;refine(HJ2.out).mono ?_;rintro e w3 ⟨v3,rfl,HO3,HB3⟩;have J3:=Hi (JJ.out.later HB3.out);obtain⟨A3,c3,rfl,hoff⟩:=JJ.out.off HO3.out (Nat.le_refl _);have HOF:=Hi hoff;obtain⟨p0,p1,p2,p3,p4,p5,p6⟩:=J3.out.box.cells;have HC3:=Hi (HCT.out w3 A3 c3 J3.out.bel hoff.row);obtain⟨lxy,hlxy⟩:∃ lxy,(x++y).length=lxy:=⟨_,rfl⟩;rw[hlxy]at HC3 ⊢;have HLX:=Hi hlxy;clear HO3 HB3 hoff HJ2 e2 HCT hlxy;go_wp2_with fail;refine(HC3.out).mono ?_;rintro e w4 ⟨rfl,b4⟩;have J4':=Hi (J3.out.later b4);have HO4:=Hi (HOF.out.same b4.size fun k' _ hk' _=>b4.block k' hk')
     clear b4 HC3 HOF J3 JJ p0 p1 p2 p3 p4 p5 p6
     by_cases her:tr.1=0
     ·have her':(tr.1 != 0)=false:=by simp[her]
      have NJ':Hid (∀ y∈b.take (j+1),(t (x++y)).1=0):=by
       rw[HTN.out];refine Hi fun z hz => ?_
       rcases List.mem_append.1 hz with h | h
       ·exact NJ.out z h
       ·rw[List.mem_singleton]at h
        rw[h,HRR.out];exact her
      rw[her]
      by_cases hht:hit=true
      ·have ht2:tr.2=true:=HIT.out.trans hht
       rw[ht2];have h1:=HFY.out hht;have h2:=HGY.out hht;have h3:=HAY.out hht;obtain⟨v5,w5,hrun,J5⟩:=J4'.out.app A3 c3 (x++y) HO4.out (by rw[List.length_append];have:=HTL.out;have:=HJL.out;have:=HGL.out;omega)
       rw[HLX.out]at hrun;have c5:=J5.out.fl.cell j (by have:=HFL.out;omega)
       have f5:=J5.out.fl.free j;have J6:=Hi (J5.out.set j true);rw[←h1,List.append_assoc,←h2]at J6;have H3:=Hi h3.symm;have hjm:(j:Int) < (m:Int):=by omega
       clear h1 h2 h3 J5 J4' HO4 ht2 her her' HIT HRR HER HFY HFN HGY HGN HAY HAN hht
       go_wp2_with (at_builtin;refine Lib.wpList_append_run_sl _ rfl _ _ 22 rfl _ _ rfl rfl hrun ?_)
       go_roundw
       case rel=>exact⟨j+1,_,rfl,by omega,by go_num,by rw[H3.out],J6,NJ'⟩
       case measure=>simp[intOf];omega
      ·have hhf:hit=false:=by simpa using hht
       have ht2:tr.2=false:=HIT.out.trans hhf;rw[ht2];have h1:=HFN.out hhf;have h2:=HGN.out hhf;have h3:=HAN.out hhf;rw[←h1,←h2]at J4';have H3:=Hi h3.symm;clear h1 h2 h3 HO4 ht2 her her' HIT HRR HER HFY HFN HGY HGN HAY HAN hht hhf;go_wp2_with fail
       go_roundw
       case rel=>exact⟨j+1,_,rfl,by omega,by go_num,by rw[H3.out],J4',NJ'⟩
       case measure=>simp[intOf];omega
     ·have her':(tr.1 != 0)=true:=by simpa using her
      obtain⟨h1,h2⟩:=HER.out her;have HFIN:Hid (Rows2 w ER JR (.returned (.tuple #[.slice none 0 0,.int .i64 tr.1])) w4):=Hi ⟨_,by rw[h1],Hi (by rw[h2];exact OwnR.nil _ _),Hi J4'.out.bel⟩
      generalize tr.1=er at *;clear h1 h2 HER HRR;go_wp2_with fail
      go_ret2
      exact HFIN.out
    ·obtain rfl:j=m:=by omega
     have NE':Hid (∀ r∈pairsP (a.take (k+1)) b,(t r).1=0):=by
      rw[HPX.out];refine Hi fun r hr => ?_
      rcases List.mem_append.1 hr with h | h
      ·exact NE.out r h
      ·obtain⟨y,hy,rfl⟩:=List.mem_map.1 h
       exact NJ.out y (by rw[List.take_of_length_le (by rw[HLB.out];exact Nat.le_refl _)];exact hy)
     have hfe:=HFE.out;rw[HLB.out]at hfe;rw[hfe]at JJ;have hnx:=HNX.out;rw[HLB.out]at hnx;clear HFE HNX HEK hfe;generalize alP t x b j=al at *;cases al
     ·rw[Bool.and_false,if_neg (by decide),List.append_nil]at hnx
      rw[←hnx]at JJ;clear hnx;go_wp2_with fail
      go_roundw
      case rel=>exact⟨k+1,_,rfl,by omega,by go_num,JJ,NE'⟩
      case measure=>simp[intOf];omega
     ·cases lf
      ·rw[Bool.false_and,if_neg (by decide),List.append_nil]at hnx
       rw[←hnx]at JJ;clear hnx;go_wp2_with fail
       go_roundw
       case rel=>exact⟨k+1,_,rfl,by omega,by go_num,JJ,NE'⟩
       case measure=>simp[intOf];omega
      ·rw[Bool.true_and,if_pos rfl]at hnx
       have HN:=Hi hnx;have HGL:=Hi (go_len t x b j);rw[HLB.out]at HGL;have HNU:=Hi (nulls_any wb (by omega) wr)
       clear hnx;go_wp2_with fail;refine(HNU.out).mono ?_;rintro e w3 ⟨v3,rfl,HO3,HB3⟩;have J3:=Hi (JJ.out.later HB3.out);obtain⟨A3,c3,rfl,-,-,hrow3⟩:=HO3.out.row;have HJ2:=Hi (joined_two ⟨xA,xc,x⟩ ⟨A3,c3,List.replicate wb zW⟩ w3 (HX1.out w3 J3.out.bel) hrow3 (Nat.le_trans HX2.out (by decide)) (by rw[List.length_replicate];omega))
       rw[List.length_replicate]at HJ2 ⊢;clear HO3 HB3 hrow3 JJ HNU;go_wp2_with fail;refine(HJ2.out).mono ?_;rintro e w4 ⟨v4,rfl,HO4,HB4⟩;have J4':=Hi (J3.out.later HB4.out);obtain⟨A4,c4,rfl,hoff⟩:=J3.out.off HO4.out (Nat.le_refl _);obtain⟨v5,w5,hrun,J5⟩:=J4'.out.app A4 c4 (x++List.replicate wb zW) hoff (by rw[List.length_append];have:=HTL.out;have:=HJL.out;have:=HGL.out;omega)
       rw[←HN.out]at J5;generalize (x++List.replicate wb zW).length=lxy at *;clear HO4 HB4 hoff J4' J3 HJ2
       go_wp2_with (at_builtin;refine Lib.wpList_append_run_sl _ rfl _ _ 22 rfl _ _ rfl rfl hrun ?_)
       go_roundw
       case rel=>exact⟨k+1,_,rfl,by omega,by go_num,J5,NE'⟩
       case measure=>simp[intOf];omega
  ·obtain rfl:k=n:=by omega
   obtain⟨h1,h2⟩:=HZ.out NE.out;subst h1;have hfs:fl0 t (a.take k) b=fl0 t a b:=by rw[List.take_of_length_le (by rw[HLA.out];exact Nat.le_refl _)]
   rw[hfs]at JK;have HJR:=Hi h2;have HTL:=Hi (take_small (a:=a) (k:=k) (m:=m) (by rw[HLA.out];exact hla) hlb)
   have HJL:=Hi (jleft_len t lf (a.take k) b (List.replicate wb zW));rw[HLB.out]at HJL;generalize jLeft t lf (a.take k) b (List.replicate wb zW)=LL at *;clear h2 hfs HE HZ NE;go_wp2_with fail;obtain⟨wo,rfl⟩:∃ wo:World,wo=wr:=⟨_,rfl⟩
   have JI:Hid (JS w wo w.heap.size q (.string s0) (.int .i64 i1) (.int .i64 i2) (.string s3) (.string s4) (.string s5) v6 (fl0 t a b) o (LL++if rt then riP t a b (List.replicate wa zW) 0 else [])):=by
    have e:(if rt then riP t a b (List.replicate wa zW) 0 else [])=([]:List (List BV.V)):=by cases rt <;> rfl
    rw[e,List.append_nil];exact JK
   go_loopw [93,17] (fun i ov wr=>∃ (j:Nat) (o:Value),o=ov∧j≤m∧i = .int .i64 j∧Hid (JS w wr w.heap.size q (.string s0) (.int .i64 i1) (.int .i64 i2) (.string s3) (.string s4) (.string s5) v6 (fl0 t a b) o (LL++if rt then riP t a b (List.replicate wa zW) j else []))) (fun i _ _=>m - (intOf i).toNat)
   case atStart=>exact⟨0,_,rfl,Nat.zero_le _,rfl,JI⟩
   case round =>
    obtain⟨j,o2,rfl,hj,rfl,JJ⟩:=hrel
    by_cases hltj:j < m
    ·obtain⟨hjx,hjb,hjj⟩:=HB.out j hltj
     obtain⟨bb,offb,hBb,hblb,hcb⟩:=RB.out.1 (by omega)
     subst hBb;have e2:=(JJ.out.bel.cell (p:=⟨bb,_,none⟩) hblb).trans (hcb j hjx);unfold BV.R.val at e2;have hjm:(j:Int) < (m:Int):=by omega
     cases rt
     ·clear hcb hjj
      go_wp2_with fail
      go_roundw
      case rel=>exact⟨j+1,_,rfl,by omega,by go_num,JJ⟩
      case measure=>simp[intOf];omega
     ·have cfl:=JJ.out.fl.cell j (by rw[fl0_len,HLB.out];exact hltj)
      have hfe:(fl0 t a b)[j]'(by rw[fl0_len,HLB.out];exact hltj)=a.any fun x=>hitP t x b[j]:=by simp[fl0]
      rw[hfe]at cfl
      by_cases hany:(a.any fun x=>hitP t x b[j])=true
      ·have hno:=ri_no (na:=List.replicate wa zW) hjb hany
       rw[hany]at cfl;simp only[if_true]at JJ ⊢;rw[←hno]at JJ;clear hcb hjj hno hfe hany;go_wp2_with fail
       go_roundw
       case rel=>exact⟨j+1,_,rfl,by omega,by go_num,by simpa using JJ⟩
       case measure=>simp[intOf];omega
      ·have hany':(a.any fun x=>hitP t x b[j])=false:=by simpa using hany
       have HYS:=Hi (ri_yes (na:=List.replicate wa zW) hjb hany');rw[hany']at cfl;simp only[if_true]at JJ;have HY1:=Hi (fun W (hb:Below w.heap.size w W)=>(RB.out.2 rb[j] (List.getElem_mem hjx)).later hb)
       have HY2:=Hi (WB.out rb[j] (List.getElem_mem hjx));rw[hjj]at HY1 HY2 e2;have HRL:=Hi (ri_len t a b (List.replicate wa zW) j);rw[HLB.out]at HRL;have HNU:=Hi (nulls_any wa (by omega) wr)
       generalize rb[j].A=yA at *;generalize rb[j].c=yc at *;generalize b[j]=y at *;clear hcb hjj hfe hany hany';go_wp2_with fail;refine(HNU.out).mono ?_;rintro e w3 ⟨v3,rfl,HO3,HB3⟩;have J3:=Hi (JJ.out.later HB3.out);obtain⟨A3,c3,rfl,-,-,hrow3⟩:=HO3.out.row;have HJ2:=Hi (joined_two ⟨A3,c3,List.replicate wa zW⟩ ⟨yA,yc,y⟩ w3 hrow3 (HY1.out w3 J3.out.bel) (by rw[List.length_replicate];omega) (Nat.le_trans HY2.out (by decide)))
       rw[List.length_replicate]at HJ2 ⊢;clear HO3 HB3 hrow3 JJ HNU;go_wp2_with fail;refine(HJ2.out).mono ?_;rintro e w4 ⟨v4,rfl,HO4,HB4⟩;have J4':=Hi (J3.out.later HB4.out);obtain⟨A4,c4,rfl,hoff⟩:=J3.out.off HO4.out (Nat.le_refl _);obtain⟨v5,w5,hrun,J5⟩:=J4'.out.app A4 c4 (List.replicate wa zW++y) hoff (by rw[List.length_append];have:=HTL.out;have:=HJL.out;have:=HRL.out;omega)
       rw[List.append_assoc,←HYS.out]at J5;generalize (List.replicate wa zW++y).length=lxy at *;clear HO4 HB4 hoff J4' J3 HJ2
       go_wp2_with (at_builtin;refine Lib.wpList_append_run_sl _ rfl _ _ 22 rfl _ _ rfl rfl hrun ?_)
       go_roundw
       case rel=>exact⟨j+1,_,rfl,by omega,by go_num,by simpa using J5⟩
       case measure=>simp[intOf];omega
    ·obtain rfl:j=m:=by omega
     rw[←HJR.out]at JJ;go_wp2_with fail
     go_ret2
     exact⟨_,rfl,Hi (JJ.out.own.mono (by have:=JJ.out.wq;omega)),Hi JJ.out.bel⟩
theorem join_cross(ra rb:List BV.R)(A B:Option Addr)(ca cb wa wb:Nat)(d0:ByteArray)(i1' i2':Int)(d3 d4 d5:ByteArray)(v6':Value)(t:List BV.V→Int×Bool)(w:World)
  (ha:BV.RowsAt w w.heap.size A ra)(hb:BV.RowsAt w w.heap.size B rb)(hla:ra.length≤500)(hlb:rb.length≤500)(hwa:∀ r∈ra,r.xs.length≤60)(hwb:∀ r∈rb,r.xs.length≤60)(hna:wa≤60)(hnb:wb≤60)
  (hask:Asks w (.agg #[.string ⟨#[108,105,116]⟩,.int .i64 1,.int .i64 1,.string ⟨#[]⟩,.string ⟨#[]⟩,.string ⟨#[]⟩,.slice none 0 0]) t (ra.map BV.R.xs) (rb.map BV.R.xs)) :
  Calls Tryz.prog 17 #[.string ⟨#[99,114,111,115,115]⟩,.slice A ra.length ca,.slice B rb.length cb,.int .i64 wa,.int .i64 wb,.agg #[.string d0,.int .i64 i1',.int .i64 i2',.string d3,.string d4,.string d5,v6']] w (Rows2 w (errsP t (pairsP (ra.map BV.R.xs) (rb.map BV.R.xs))) (JRes t false false (ra.map BV.R.xs) (rb.map BV.R.xs) wa wb)):=by
 obtain⟨n,hn⟩:∃ n,n=ra.length:=⟨_,rfl⟩;obtain⟨m,hm⟩:∃ m,m=rb.length:=⟨_,rfl⟩;obtain⟨a,haa⟩:∃ a,ra.map BV.R.xs=a:=⟨_,rfl⟩;obtain⟨b,hbb⟩:∃ b,rb.map BV.R.xs=b:=⟨_,rfl⟩;have hlA:a.length=n:=by rw[←haa,List.length_map,hn]
 have hlB:b.length=m:=by rw[←hbb,List.length_map,hm]
 have HA:Hid (∀ k (h:k < n),∃ h':k < ra.length,∃ h'':k < a.length,ra[k].xs=a[k]):=Hi fun k h=>⟨by omega,by omega,by subst haa;simp⟩
 have HB:Hid (∀ k (h:k < m),∃ h':k < rb.length,∃ h'':k < b.length,rb[k].xs=b[k]):=Hi fun k h=>⟨by omega,by omega,by subst hbb;simp⟩
 rw[haa,hbb]at hask ⊢;rw[←hn]at hla ⊢;rw[←hm]at hlb ⊢;have HLA:=Hi hlA;have HLB:=Hi hlB;have RA:=Hi ha;have RB:=Hi hb;have WA:=Hi hwa;have WB:=Hi hwb;have HASK:=Hi hask
 have HE:Hid (∀ k j (hk:k < a.length) (hj:j < b.length),(∀ r∈pairsP (a.take k) b,(t r).1=0)→(∀ y∈b.take j,(t (a[k]++y)).1=0)→¬(t (a[k]++b[j])).1=0→errsP t (pairsP a b)=(t (a[k]++b[j])).1∧JRes t false false a b wa wb = []):=Hi fun k j hk hj h1 h2 h3=>by
  have h:=errs_at hk hj h1 h2 h3;exact⟨h,by unfold JRes;rw[h,if_neg h3]⟩
 have HZ:Hid ((∀ r∈pairsP (a.take n) b,(t r).1=0)→errsP t (pairsP a b)=0∧JRes t false false a b wa wb=jLeft t false (a.take n) b (List.replicate wb zW)++if false then riP t a b (List.replicate wa zW) m else []):=Hi fun h=>by
  rw[←hlA,List.take_length]at h ⊢;rw[←hlB,ri_end];have h0:=errs_zero.2 h;exact⟨h0,by unfold JRes;rw[h0,if_pos rfl];rfl⟩
 generalize errsP t (pairsP a b)=ER at *;generalize JRes t false false a b wa wb=JR at *;obtain⟨W1,hW1,q1,z1,r1⟩:=box7 w (.string d0) (.int .i64 i1') (.int .i64 i2') (.string d3) (.string d4) (.string d5) v6';have HW1:=Hi hW1;have Q1:=Hi q1;have R1:=Hi r1;clear ha hb hwa hwb hask haa hbb hn hm hlA hlB hW1 q1 r1 z1;go_enter Tryz.func17,Tryz.ntmps17
 go_wp2_with (rw[←HW1.out])
 refine(sides_any ⟨#[99,114,111,115,115]⟩ false true false false false (by rw[Lib.toList_data];rfl) (by rw[Lib.toList_data];rfl) (by rw[Lib.toList_data];rfl) (by rw[Lib.toList_data];rfl) (by rw[Lib.toList_data];rfl) W1).mono ?_
 rintro e w2 ⟨rfl,b2⟩;dsimp only[sidesB,Bool.false_or,Bool.true_or,if_true];have Q2:=Hi (Q1.out.later b2);have R2:=Hi (bthen R1.out b2);clear b2;go_wp2_with fail;refine(always_any w2).mono ?_;rintro e w2' ⟨rfl,b2'⟩;have Q2':=Q2.out.later b2';obtain⟨y0,y1,y2,y3,y4,y5,y6⟩:=Q2'.cells;obtain⟨f0,f1,f2,f3,f4,f5,f6⟩:=Q2'.free;obtain⟨W8,hW8,b8,z8,o8,l8⟩:=stored7 Q2' (.string ⟨#[108,105,116]⟩) (.int .i64 1) (.int .i64 1) (.string ⟨#[]⟩) (.string ⟨#[]⟩) (.string ⟨#[]⟩) (.slice none 0 0);have Q3:=Hi b8;have R3:=Hi ((bthen R2.out b2').trans (l8 w.heap.size (Nat.le_refl _)));have HW8:=Hi hW8;have hmk:=made_flags m (by omega) W8
 obtain⟨W4,hW4⟩:∃ W4:World,W4=W8.alloc (.cells ((List.replicate m false).map Value.bool).toArray 4):=⟨_,rfl⟩;rw[←hW4]at hmk;have HW4:=Hi hW4;have hq8:w.heap.size < W8.heap.size:=Q3.out.lt
 have J4:Hid (JS w W4 w.heap.size W8.heap.size (.string ⟨#[108,105,116]⟩) (.int .i64 1) (.int .i64 1) (.string ⟨#[]⟩) (.string ⟨#[]⟩) (.string ⟨#[]⟩) (.slice none 0 0) (fl0 t [] b) (.slice none 0 0) (jLeft t false (a.take 0) b (List.replicate wb zW))):=by
  have hf:(fl0 t [] b)=List.replicate m false:=by
   rw[←HLB.out];unfold fl0;simp only[List.any_nil];exact List.map_const' ..
  have hA:=(Below.refl W8.heap.size W8).alloc (Nat.le_refl _) (.cells ((List.replicate m false).map Value.bool).toArray 4);rw[←hW4]at hA;refine Hi ⟨by simpa [jLeft]using OwnR.nil W4 (W8.heap.size+1),by rw[hf,hW4];exact heap_alloc_new W8 _,Q3.out.later hA,bthen R3.out hA,hq8,by omega⟩
 clear Q2' b2' b8 z8 o8 l8 hW8 hW4 Q3 R3 Q2 R2 Q1 R1 HW1;generalize W8.heap.size=q at *
 go_wp2_with (first | (rw[←HW4.out]) | (rw[←HW8.out]))
 clear y0 y1 y2 y3 y4 y5 y6 f0 f1 f2 f3 f4 f5 f6 hmk
 go_loopw [45,17] (fun i ov wr=>∃ (k:Nat) (o:Value),o=ov∧k≤n∧i = .int .i64 k∧Hid (JS w wr w.heap.size q (.string ⟨#[108,105,116]⟩) (.int .i64 1) (.int .i64 1) (.string ⟨#[]⟩) (.string ⟨#[]⟩) (.string ⟨#[]⟩) (.slice none 0 0) (fl0 t (a.take k) b) o (jLeft t false (a.take k) b (List.replicate wb zW)))∧Hid (∀ r∈pairsP (a.take k) b,(t r).1=0)) (fun i _ _=>n - (intOf i).toNat)
 case atStart=>exact⟨0,_,rfl,Nat.zero_le _,rfl,J4,Hi (by simp[pairsP])⟩
 case round =>
  obtain⟨k,o,rfl,hk,rfl,JK,NE⟩:=hrel
  by_cases hlt:k < n
  ·obtain⟨hkx,hka,hkk⟩:=HA.out k hlt
   obtain⟨ba,offa,hAa,hbla,hca⟩:=RA.out.1 (by omega)
   subst hAa;have e1:=(JK.out.bel.cell (p:=⟨ba,_,none⟩) hbla).trans (hca k hkx);unfold BV.R.val at e1;have HX1:=Hi (fun W (hb:Below w.heap.size w W)=>(RA.out.2 ra[k] (List.getElem_mem hkx)).later hb)
   have HX2:=Hi (WA.out ra[k] (List.getElem_mem hkx));have HMEM:=Hi (show a[k]∈a from List.getElem_mem hka)
   have HNX:=Hi (left_next t false b (List.replicate wb zW) hka);have HPX:=Hi (pairs_next b hka);have HFE:=Hi (fl_end t (a.take k) a[k] b);rw[←take_next hka]at HFE;have HEK:=Hi (fun j (hj:j < b.length) h2 h3=>HE.out k j hka hj NE.out h2 h3)
   have HTL:=Hi (take_small (a:=a) (k:=k) (m:=m) (by rw[HLA.out];exact hla) hlb)
   have HJL:=Hi (jleft_len t false (a.take k) b (List.replicate wb zW));rw[HLB.out]at HJL;rw[hkk]at HX1 HX2 e1;obtain⟨ax,hax⟩:∃ ax:BV.R,ax=⟨ra[k].A,ra[k].c,a[k]⟩:=⟨_,rfl⟩;generalize ra[k].A=xA at *;generalize ra[k].c=xc at *;generalize a[k]=x at *;clear hca hkk;go_wp2_with fail;obtain⟨wo,rfl⟩:∃ wo:World,wo=wr:=⟨_,rfl⟩
   have JI:Hid (JS w wo w.heap.size q (.string ⟨#[108,105,116]⟩) (.int .i64 1) (.int .i64 1) (.string ⟨#[]⟩) (.string ⟨#[]⟩) (.string ⟨#[]⟩) (.slice none 0 0) (flP t (a.take k) x 0 b) o (jLeft t false (a.take k) b (List.replicate wb zW)++goP t x b 0)):=by
    rw[fl_start,show goP t x b 0 = [] from rfl,List.append_nil]
    exact JK
   go_loopw [51,17,21] (fun i ov al wr=>∃ (j:Nat) (o:Value),o=ov∧j≤m∧i = .int .i64 j∧al = .bool (alP t x b j)∧Hid (JS w wr w.heap.size q (.string ⟨#[108,105,116]⟩) (.int .i64 1) (.int .i64 1) (.string ⟨#[]⟩) (.string ⟨#[]⟩) (.string ⟨#[]⟩) (.slice none 0 0) (flP t (a.take k) x j b) o (jLeft t false (a.take k) b (List.replicate wb zW)++goP t x b j))∧Hid (∀ y∈b.take j,(t (x++y)).1=0)) (fun i _ _ _=>m - (intOf i).toNat)
   case atStart=>exact⟨0,_,rfl,Nat.zero_le _,rfl,rfl,JI,Hi (by simp)⟩
   case round =>
    obtain⟨j,o2,rfl,hj,rfl,rfl,JJ,NJ⟩:=hrel
    by_cases hltj:j < m
    ·obtain⟨hjx,hjb,hjj⟩:=HB.out j hltj
     obtain⟨bb,offb,hBb,hblb,hcb⟩:=RB.out.1 (by omega)
     subst hBb;have e2:=(JJ.out.bel.cell (p:=⟨bb,_,none⟩) hblb).trans (hcb j hjx);unfold BV.R.val at e2;have HY1:=Hi ((RB.out.2 rb[j] (List.getElem_mem hjx)).later JJ.out.bel);have HY2:=Hi (WB.out rb[j] (List.getElem_mem hjx));have HYM:=Hi (show b[j]∈b from List.getElem_mem hjb)
     have HER:=Hi (fun h3=>HEK.out j hjb NJ.out h3)
     have HGL:=Hi (go_len t x b j);rw[HLB.out]at HGL;have HFY:=Hi (fun h=>@fl_yes _ t (a.take k) x j b hjb h)
     have HFN:=Hi (fun h=>@fl_no _ t (a.take k) x j b hjb h)
     have HGY:=Hi (fun h=>@go_yes _ t x b j hjb h)
     have HGN:=Hi (fun h=>@go_no _ t x b j hjb h)
     have HAY:=Hi (fun h=>@al_yes _ t x b j hjb h)
     have HAN:=Hi (fun h=>@al_no _ t x b j hjb h)
     have HTN:=Hi (take_next hjb);have HFL:=Hi (fl_len t (a.take k) x j b);rw[HLB.out]at HFL;rw[hjj]at HY1 HY2 e2;have HJ2:=Hi (joined_two ⟨xA,xc,x⟩ ⟨rb[j].A,rb[j].c,b[j]⟩ wr (HX1.out wr JJ.out.bel) HY1.out (Nat.le_trans HX2.out (by decide)) (Nat.le_trans HY2.out (by decide)))
     have HCT:=Hi (HASK.out x HMEM.out b[j] HYM.out);have HIT:Hid ((t (x++b[j])).2=hitP t x b[j]):=Hi rfl;generalize rb[j].A=yA at *;generalize rb[j].c=yc at *;generalize b[j]=y at *;generalize hitP t x y=hit at *;generalize hrr:t (x++y)=tr at *;have HRR:=Hi hrr;clear hcb hjj HY1 HY2 hrr;go_wp2_with fail;refine(HJ2.out).mono ?_;rintro e w3 ⟨v3,rfl,HO3,HB3⟩;have J3:=Hi (JJ.out.later HB3.out);obtain⟨A3,c3,rfl,hoff⟩:=JJ.out.off HO3.out (Nat.le_refl _);have HOF:=Hi hoff;obtain⟨p0,p1,p2,p3,p4,p5,p6⟩:=J3.out.box.cells;have HC3:=Hi (HCT.out w3 A3 c3 J3.out.bel hoff.row);obtain⟨lxy,hlxy⟩:∃ lxy,(x++y).length=lxy:=⟨_,rfl⟩;rw[hlxy]at HC3 ⊢;have HLX:=Hi hlxy;clear HO3 HB3 hoff HJ2 e2 HCT hlxy;go_wp2_with fail;refine(HC3.out).mono ?_;rintro e w4 ⟨rfl,b4⟩;have J4':=Hi (J3.out.later b4);have HO4:=Hi (HOF.out.same b4.size fun k' _ hk' _=>b4.block k' hk')
     clear b4 HC3 HOF J3 JJ p0 p1 p2 p3 p4 p5 p6
     by_cases her:tr.1=0
     ·have her':(tr.1 != 0)=false:=by simp[her]
      have NJ':Hid (∀ y∈b.take (j+1),(t (x++y)).1=0):=by
       rw[HTN.out];refine Hi fun z hz => ?_
       rcases List.mem_append.1 hz with h | h
       ·exact NJ.out z h
       ·rw[List.mem_singleton]at h
        rw[h,HRR.out];exact her
      rw[her]
      by_cases hht:hit=true
      ·have ht2:tr.2=true:=HIT.out.trans hht
       rw[ht2];have h1:=HFY.out hht;have h2:=HGY.out hht;have h3:=HAY.out hht;obtain⟨v5,w5,hrun,J5⟩:=J4'.out.app A3 c3 (x++y) HO4.out (by rw[List.length_append];have:=HTL.out;have:=HJL.out;have:=HGL.out;omega)
       rw[HLX.out]at hrun;have c5:=J5.out.fl.cell j (by have:=HFL.out;omega)
       have f5:=J5.out.fl.free j;have J6:=Hi (J5.out.set j true);rw[←h1,List.append_assoc,←h2]at J6;have H3:=Hi h3.symm;have hjm:(j:Int) < (m:Int):=by omega
       clear h1 h2 h3 J5 J4' HO4 ht2 her her' HIT HRR HER HFY HFN HGY HGN HAY HAN hht
       go_wp2_with (at_builtin;refine Lib.wpList_append_run_sl _ rfl _ _ 22 rfl _ _ rfl rfl hrun ?_)
       go_roundw
       case rel=>exact⟨j+1,_,rfl,by omega,by go_num,by rw[H3.out],J6,NJ'⟩
       case measure=>simp[intOf];omega
      ·have hhf:hit=false:=by simpa using hht
       have ht2:tr.2=false:=HIT.out.trans hhf;rw[ht2];have h1:=HFN.out hhf;have h2:=HGN.out hhf;have h3:=HAN.out hhf;rw[←h1,←h2]at J4';have H3:=Hi h3.symm;clear h1 h2 h3 HO4 ht2 her her' HIT HRR HER HFY HFN HGY HGN HAY HAN hht hhf;go_wp2_with fail
       go_roundw
       case rel=>exact⟨j+1,_,rfl,by omega,by go_num,by rw[H3.out],J4',NJ'⟩
       case measure=>simp[intOf];omega
     ·have her':(tr.1 != 0)=true:=by simpa using her
      obtain⟨h1,h2⟩:=HER.out her;have HFIN:Hid (Rows2 w ER JR (.returned (.tuple #[.slice none 0 0,.int .i64 tr.1])) w4):=Hi ⟨_,by rw[h1],Hi (by rw[h2];exact OwnR.nil _ _),Hi J4'.out.bel⟩
      generalize tr.1=er at *;clear h1 h2 HER HRR;go_wp2_with fail
      go_ret2
      exact HFIN.out
    ·obtain rfl:j=m:=by omega
     have NE':Hid (∀ r∈pairsP (a.take (k+1)) b,(t r).1=0):=by
      rw[HPX.out];refine Hi fun r hr => ?_
      rcases List.mem_append.1 hr with h | h
      ·exact NE.out r h
      ·obtain⟨y,hy,rfl⟩:=List.mem_map.1 h
       exact NJ.out y (by rw[List.take_of_length_le (by rw[HLB.out];exact Nat.le_refl _)];exact hy)
     have hfe:=HFE.out;rw[HLB.out]at hfe;rw[hfe]at JJ;have hnx:=HNX.out;rw[HLB.out]at hnx;clear HFE HNX HEK hfe;rw[Bool.false_and,if_neg (by decide),List.append_nil]at hnx
     rw[←hnx]at JJ;generalize alP t x b j=al at *;clear hnx;cases al
     ·go_wp2_with fail
      go_roundw
      case rel=>exact⟨k+1,_,rfl,by omega,by go_num,JJ,NE'⟩
      case measure=>simp[intOf];omega
     ·go_wp2_with fail
      go_roundw
      case rel=>exact⟨k+1,_,rfl,by omega,by go_num,JJ,NE'⟩
      case measure=>simp[intOf];omega
  ·obtain rfl:k=n:=by omega
   obtain⟨h1,h2⟩:=HZ.out NE.out;subst h1;have hfs:fl0 t (a.take k) b=fl0 t a b:=by rw[List.take_of_length_le (by rw[HLA.out];exact Nat.le_refl _)]
   rw[hfs]at JK;have HJR:=Hi h2;have HTL:=Hi (take_small (a:=a) (k:=k) (m:=m) (by rw[HLA.out];exact hla) hlb)
   have HJL:=Hi (jleft_len t false (a.take k) b (List.replicate wb zW));rw[HLB.out]at HJL;generalize jLeft t false (a.take k) b (List.replicate wb zW)=LL at *;clear h2 hfs HE HZ NE;have hJR:=HJR.out;rw[if_neg (by decide),List.append_nil]at hJR
   subst hJR;clear HJR;go_wp2_with fail;obtain⟨wo,rfl⟩:∃ wo:World,wo=wr:=⟨_,rfl⟩;have HJ0:=JK
   go_loopw [93,17] (fun i ov wr=>∃ j:Nat,j≤m∧i = .int .i64 j∧ov=o∧wr=wo) (fun i _ _=>m - (intOf i).toNat)
   case atStart=>exact⟨0,Nat.zero_le _,rfl,rfl,rfl⟩
   case round =>
    obtain⟨j,hj,rfl,rfl,rfl⟩:=hrel
    by_cases hltj:j < m
    ·obtain⟨hjx,hjb,hjj⟩:=HB.out j hltj
     obtain⟨bb,offb,hBb,hblb,hcb⟩:=RB.out.1 (by omega)
     subst hBb;have e2:=(JK.out.bel.cell (p:=⟨bb,_,none⟩) hblb).trans (hcb j hjx);unfold BV.R.val at e2;clear hcb hjj;go_wp2_with fail
     go_roundw
     case rel=>exact⟨j+1,by omega,by go_num,rfl,trivial⟩
     case measure=>simp[intOf];omega
    ·obtain rfl:j=m:=by omega
     go_wp2_with fail
     go_ret2
     exact⟨_,rfl,Hi (JK.out.own.mono (by have:=JK.out.wq;omega)),Hi JK.out.bel⟩
section
variable {w wr w' : World} {g : Nat} {c0 c1 c2 c3 c4 c5 c6 : Value} {o : Value} {l : List (List BV.V)}
end
end Go.Proofs.YtcicpjgnpcnnmaaGreatDoor
