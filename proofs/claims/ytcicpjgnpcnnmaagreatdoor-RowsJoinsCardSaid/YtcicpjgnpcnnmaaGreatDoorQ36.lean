import Derived.Test.YtcicpjgnpcnnmaaGreatDoorQ35
import Derived.Deep.RegionHeldLaw
set_option maxRecDepth 100000
set_option maxHeartbeats 16000000
set_option linter.unusedSimpArgs false
set_option linter.unusedVariables false
namespace Go.Proofs.YtcicpjgnpcnnmaaGreatDoor
open Go.RowKit Go.Maps
open SC (VBox)
theorem ags_later{S:Nat→Prop}{w w':World}{A:Option Addr}{l:List Ag}(h:AgsAt S w A l)(hb:Below w.heap.size w w'):AgsAt S w' A l:=fun h0=>by
 obtain⟨b,off,hA,hlt,hc⟩:=h h0
 exact⟨b,off,hA,Nat.lt_of_lt_of_le hlt hb.size,fun j hj=>by
  obtain⟨A',c',h1,h2⟩:=hc j hj;exact⟨A',c',h1.later hb hlt,sub_later h2 hb⟩⟩
def askE(aggs:List Ag)(r:List BV.V):Int:=firstE ((aggs.map fun a=>askP a r).map (·.1))
def askV(aggs:List Ag)(r:List BV.V):List BV.V:=(aggs.map fun a=>askP a r).map (·.2)
def rowE(keys:List E)(aggs:List Ag)(r:List BV.V):Int:=if projE keys r=0 then askE aggs r else projE keys r
def pairG(keys:List E)(aggs:List Ag)(r:List BV.V):List BV.V×List BV.V:=(projV keys r,askV aggs r)
def startP(keys:List E)(aggs:List Ag):List Gp:=if keys.length=0 then grAt [] [] aggs.length else []
def ValE(w:World)(er:Int)(l:List BV.V)(q:Ending)(w':World):Prop:=∃ v,q = .returned (.tuple #[v,.int .i64 er])∧Hid (er=0→OwnV w' w.heap.size v l)∧Hid (Below w.heap.size w w')
def GrpPost(w:World)(er:Int)(l:List Gp)(q:Ending)(w':World):Prop:=∃ lv,q = .returned (.tuple #[lv,.int .i64 er])∧Hid (er=0→∃ T gs,GsAt w' w.heap.size T lv gs∧gs.map Gx.plain=l)∧Hid (Below w.heap.size w w')
def Tags.from(T:Tags)(n:Nat)(x:Nat×Nat):Tags:=fun k=>if n≤k then x else T k
theorem Tags.from_lt{T:Tags}{n k:Nat}{x:Nat×Nat}(h:k < n):T.from n x k=T k:=by unfold Tags.from;rw[if_neg (by omega)]
theorem Tags.from_ge{T:Tags}{n k:Nat}{x:Nat×Nat}(h:n≤k):T.from n x k=x:=by unfold Tags.from;rw[if_pos h]
theorem keyOff_own{w:World}{B B':Nat}{T:Tags}{j:Nat}{A:Option Addr}{c:Nat}{xs:List BV.V}(h:OwnV w B' (.slice A xs.length c) xs)(hB:B≤B')(hT:∀ k,B'≤k→k < w.heap.size→T k=(j+1,0)):KeyOff w B T j A c xs:=by
 obtain⟨A2,c2,e,h2⟩:=OwnV.off h hB (g:=none) (fun k hk=>by cases hk)
 injection e with e1 _ e3
 subst e1 e3;refine⟨fun h0 => ?_,h2.2⟩
 obtain⟨g,c3,hv,hb1,hb2⟩:=ownV_form h h0
 injection hv with hv _ _
 obtain⟨b,off,hA,_,_,hlt,hc⟩:=h2.1 h0;have e2:=hv.symm.trans hA
 injection e2 with e2
 injection e2 with e3 e4 _
 subst e3;exact⟨g,off,hA,by omega,hT g hb1 hb2,hb2,hc⟩
theorem st_zero(w:World):St ((w.alloc (.map #[] 0)).alloc (.cells #[.slice none 0 0,.map (some w.heap.size)] 120)) w.heap.size (fun k=>if k=w.heap.size then (0,1)else (0,2)) (w.heap.size+1) w.heap.size rtx []:=by
 have h1:=heap_alloc_new (w.alloc (.map #[] 0)) (.cells #[.slice none 0 0,.map (some w.heap.size)] 120);have hz:(w.alloc (.map #[] 0)).heap.size=w.heap.size+1:=by simp
 rw[hz]at h1;refine⟨⟨_,h1,⟨World.ownsRow_nil _ _ _ _,fun j hj=>by simp at hj,fun k hk=>by simp[Value.ownBlock]at hk⟩⟩,⟨by omega,by simp⟩,⟨Nat.le_refl _,by simp⟩,⟨.map [],?_,Agr.nil⟩⟩
 exact ownM_same (World.ownsMap_made w Tryz.prog 9 (plainElem Tryz.prog 3)) (heap_alloc_old _ _ (by simp))
theorem wd_start(keys:List E)(aggs:List Ag):Wd (startP keys aggs) aggs.length 0 1:=by
 unfold startP
 split
 ·have h:Wd [] aggs.length 0 0:=⟨by simp,by simp⟩
  exact wd_at h []
 ·exact⟨by simp,by simp⟩
theorem wp_thenG{P:Program}{c:Code}{Q:Exit→Act→World→Prop}{a:Act}{w:World}(h:∀ K:Act→World→Prop,(∀ a w,Q .normal a w→K a w)→c.wp P (Exit.then K Q) a w):c.wp P Q a w:=by
 have h1:=h (Q .normal) (fun _ _ h=>h)
 have h2:Exit.then (Q .normal) Q=Q:=by
  funext e a w
  cases e <;> rfl
 rwa [h2]at h1
theorem mul_le{k na:Nat}(h1:k≤1000)(h2:na≤1000):k*na≤1000000:=Nat.mul_le_mul h1 h2
theorem grouped_any(rows:List BV.R)(keys:List E)(aggs:List Ag)(v0:Vl)(S S':Nat→Prop)(w:World)(R K G:Option Addr)(rc kc gc:Nat)(hrows:BV.RowsAt w w.heap.size R rows)(hrl:rows.length≤1000)(hrw:∀ r∈rows,r.xs.length≤100000)(hkeys:Sub S w (.mk [] v0 [] [] keys) K kc)(hags:AgsAt S' w G aggs)(hE:SC.Env w)(hE':BV.Env w)
  (hkf:∀ r∈rows,∀ e∈keys,e.fit deedP r.xs)(hkv:∀ r∈rows,∀ e∈keys,(e.ev deedP r.xs).2.ok)(hgf:∀ r∈rows,∀ a∈aggs,a.star=false→a.e.fit deedP r.xs)(hkl:keys.length≤1000)(hal:aggs.length≤1000) :
  Calls Tryz.prog 51 #[.slice R rows.length rc,.slice K keys.length kc,.slice G aggs.length gc] w (GrpPost w (firstE (rows.map fun r=>rowE keys aggs r.xs)) (grpP aggs.length (startP keys aggs) (rows.map fun r=>pairG keys aggs r.xs))):=by
 have HV:=Hi (fun(k:Nat) (hk:k < rows.length) (W:World) (hb:Below w.heap.size w W)=>(show Calls Tryz.prog 34 _ W (ValE W (projE keys rows[k].xs) (projV keys rows[k].xs)) from values_any rows[k].xs (hrw _ (List.getElem_mem hk)) keys v0 S W rows[k].A K rows[k].c kc (sub_later hkeys hb) ((hrows.2 rows[k] (List.getElem_mem hk)).later hb) (hE.later hb) (hkf _ (List.getElem_mem hk)) (by omega)))
 have HQ:=Hi (fun(k:Nat) (hk:k < rows.length) (W:World) (hb:Below w.heap.size w W)=>(show Calls Tryz.prog 76 _ W (ValE W (askE aggs rows[k].xs) (askV aggs rows[k].xs)) from asks_any rows[k].xs (hrw _ (List.getElem_mem hk)) aggs S' W rows[k].A G rows[k].c gc (ags_later hags hb) ((hrows.2 rows[k] (List.getElem_mem hk)).later hb) (hE.later hb) (hgf _ (List.getElem_mem hk)) (by omega)))
 have HKV:Hid (∀ k (hk:k < rows.length),(projV keys rows[k].xs).length≤100000∧∀ v∈projV keys rows[k].xs,v.ok):=Hi fun k hk=>⟨by unfold projV;simp;omega,fun v hv=>by
  unfold projV at hv;rw[List.map_map]at hv;obtain⟨e,he,rfl⟩:=List.mem_map.1 hv;exact hkv _ (List.getElem_mem hk) e he⟩
 have HAV:Hid (∀ k (hk:k < rows.length),(askV aggs rows[k].xs).length=aggs.length):=Hi fun k hk=>by unfold askV;simp
 obtain⟨el,hel⟩:∃ el,rows.map (fun r=>rowE keys aggs r.xs)=el:=⟨_,rfl⟩
 obtain⟨ps,hps⟩:∃ ps,rows.map (fun r=>pairG keys aggs r.xs)=ps:=⟨_,rfl⟩
 obtain⟨n,hn⟩:∃ n,n=rows.length:=⟨_,rfl⟩;obtain⟨na,hna⟩:∃ na,na=aggs.length:=⟨_,rfl⟩;obtain⟨l0,hl0⟩:∃ l0,startP keys aggs=l0:=⟨_,rfl⟩;have hle:el.length=n:=by rw[←hel,List.length_map,hn]
 have hlp:ps.length=n:=by rw[←hps,List.length_map,hn]
 have HP:Hid (∀ k (h:k < n),∃ (h1:k < rows.length) (h2:k < el.length) (h3:k < ps.length),el[k]=(if projE keys rows[k].xs=0 then askE aggs rows[k].xs else projE keys rows[k].xs)∧ps[k]=(projV keys rows[k].xs,askV aggs rows[k].xs)):=Hi fun k h=>⟨by omega,by omega,by omega,by subst hel;simp[rowE],by subst hps;simp[pairG]⟩
 have HWD:Hid (∀ k,k≤n→Wd (grpP na l0 (ps.take k)) na (k*na) (k+1)):=Hi fun k hk=>by
  have hq:∀ x∈ps.take k,x.2.length=na:=fun x hx=>by
   have hx:=List.mem_of_mem_take hx;rw[←hps]at hx;obtain⟨r,hr,rfl⟩:=List.mem_map.1 hx;unfold pairG askV
   simp[hna]
  have h1:=wd_grp na na (ps.take k) l0 0 1 hq (by rw[←hl0,hna];exact wd_start keys aggs)
  rw[List.length_take,Nat.min_eq_left (by omega)]at h1
  rw[Nat.zero_add,Nat.add_comm 1 k]at h1;exact h1
 have RA:=Hi hrows;have HE':=Hi hE';have hsz:=hE'.size;rw[hel,hps,hl0,←hna];obtain⟨PO,hPO⟩:∃ PO,GrpPost w (firstE el) (grpP na l0 ps)=PO:=⟨_,rfl⟩
 have HNO:Hid (∀ k (h:k < el.length) W,(∀ x∈el.take k,x=0)→¬el[k]=0→Hid (Below w.heap.size w W)→PO (.returned (.tuple #[.slice none 0 0,.int .i64 el[k]])) W):=Hi fun k h W h0 h1 hb=>by
  rw[←hPO];exact⟨_,by rw[firstE_at h h0 h1],Hi fun h2=>absurd ((firstE_at h h0 h1).symm.trans h2) h1,hb⟩
 have HYES:Hid (∀ W lv T gs,Hid (St W w.heap.size T (w.heap.size+1) w.heap.size rtx gs)→W.heap[w.heap.size+1]? = some (.cells #[lv,.map (some w.heap.size)] 120 (0,0))→gs.map Gx.plain=grpP na l0 (ps.take n)→(∀ x∈el.take n,x=0)→Hid (Below w.heap.size w W)→PO (.returned (.tuple #[lv,.int .i64 0])) W):=Hi fun W lv T gs h1 h2 h3 h4 hb=>by
  rw[←hPO];rw[List.take_of_length_le (by omega)]at h4
  rw[List.take_of_length_le (by omega)]at h3
  exact⟨lv,by rw[firstE_zero.2 h4],Hi fun _=>⟨T,gs,h1.out.at_box h2,h3⟩,hb⟩
 rw[hPO];have HLE:=Hi hle;have hl00:=hl0;unfold startP at hl00;rw[←hna]at hl00 HAV HQ hal;rw[←hn]at hrl ⊢;have HBN:Hid (n≤1000∧na≤1000):=Hi ⟨hrl,hal⟩;obtain⟨W1,hW1⟩:∃ W1:World,W1=(w.alloc (.map #[] 0)).alloc (.cells #[.slice none 0 0,.map (some w.heap.size)] 120):=⟨_,rfl⟩;have hb1:Below w.heap.size w W1:=by rw[hW1];exact((Below.refl _ _).alloc (Nat.le_refl _) _).alloc (by simp) _
 have HST1:Hid (St W1 w.heap.size (fun k=>if k=w.heap.size then (0,1)else (0,2)) (w.heap.size+1) w.heap.size rtx []):=Hi (by rw[hW1];exact st_zero w)
 have HB1:=Hi hb1;have HW1:=Hi hW1;have hmm:=@run_makeMap Tryz.prog;clear hrows hrw hkeys hags hE hE' hkf hkv hgf hel hps hl0 hle hlp hPO hn hna hW1 hb1
 by_cases hk0:keys.length=0
 ·skip
  -- @A
  rw[if_pos hk0]at hl00;rw[hk0]at HV ⊢;clear hk0;have hkz:((0:Nat):Int)=0:=rfl;have HAT0:=Hi (at_any W1 w.heap.size (fun k=>if k=w.heap.size then (0,1)else (0,2)) (w.heap.size+1) w.heap.size [] HST1.out [] none 0 na ⟨fun h=>by simp at h,Nat.le_refl _⟩ (HE'.out.below HB1.out hsz) (by simp) (by simp) (by simp) (by have:=HBN.out;omega) HB1.out.size)
  unfold AtPost at HAT0;simp only[List.map_nil,List.length_nil]at HAT0;rw[hl00]at HAT0;go_enter Tryz.func51,Tryz.ntmps51
  -- @B
  go_wp2_with fail
  -- @C
  obtain rfl:=HW1.out
  -- @C1
  refine(HAT0.out).mono ?_;rintro q W0 ⟨T0,gs0,gB0,rfl,HST0,HPL0,-,HKP0⟩;have HB0:=Hi (HB1.out.trans HKP0.out.below);clear HAT0 HKP0 HST1 HB1 HW1;go_wp2_with fail
  -- @AL
  go_loopw [27] (fun i wr=>∃ (k:Nat) (T:Tags) (gs:List Gx),k≤n∧i = .int .i64 k∧Hid (St wr w.heap.size T (w.heap.size+1) w.heap.size rtx gs)∧Hid (gs.map Gx.plain=grpP na l0 (ps.take k))∧Hid (∀ x∈el.take k,x=0)∧Hid (Below w.heap.size w wr)) (fun i _=>n - (intOf i).toNat)
  case atStart=>exact⟨0,T0,gs0,Nat.zero_le _,rfl,HST0,HPL0,Hi (by simp),HB0⟩
  case round =>
   obtain⟨k,T,gs,hk,rfl,HST,HPL,HC,HB⟩:=hrel
   by_cases hlt:k < n
   ·obtain⟨hkr,hke,hkp,he,hp⟩:=HP.out k hlt
    obtain⟨ba,offa,hAa,hbla,hca⟩:=RA.out.1 (by omega)
    subst hAa;have e1:=(HB.out.cell (p:=⟨ba,_,none⟩) hbla).trans (hca k hkr);unfold BV.R.val at e1;have HJ:=Hi (HV.out k hkr wr HB.out);have HJ2:=Hi (fun W (hb:Below w.heap.size w W)=>HQ.out k hkr W hb)
    have HKV1:=Hi (HKV.out k hkr);have HAV1:=Hi (HAV.out k hkr);have HNX:Hid (grpP na l0 (ps.take (k+1))=rowP na (grpP na l0 (ps.take k)) ps[k]):=Hi (grpP_next na l0 hkp);rw[hp]at HNX;have HTN:Hid (el.take (k+1)=el.take k ++ [el[k]]):=Hi (take_next hke);have HNO1:=Hi (fun W (h:¬el[k]=0) (hb:Hid (Below w.heap.size w W))=>HNO.out k hke W HC.out h hb)
    have HWD1:=Hi (HWD.out k hk);rw[he]at HNO1 HTN;have HGL:Hid (gs.length≤k+1):=Hi (by have h1:=HWD1.out.1;rw[←HPL.out,List.length_map]at h1;exact h1)
    generalize projE keys rows[k].xs=E1 at *;generalize projV keys rows[k].xs=kv at *;generalize askE aggs rows[k].xs=E2 at *;generalize askV aggs rows[k].xs=av at *;generalize rows[k].A=xA at *;generalize rows[k].c=xc at *;generalize rows[k].xs.length=xl at *;generalize grpP na l0 (ps.take k)=l1 at *;have HBWr:=HB;have HEw:=Hi (HE'.out);clear hca he hp HNO HWD HV HQ HKV HAV HP HYES RA
    -- @Aa
    go_wp2_with fail;refine(HJ.out).mono ?_;rintro q w1 ⟨v1,rfl,HO1,HB1⟩;have HBw1:=Hi (bthen HB.out HB1.out);clear HJ
    by_cases h1:E1=0
    ·subst h1
     rw[if_pos rfl]at HNO1 HTN;have ho1:=HO1.out rfl;obtain⟨A1,c1,hv1,-⟩:=ho1.shape;subst hv1;have HST1:Hid (St w1 w.heap.size (T.from wr.heap.size (gs.length+1,0)) (w.heap.size+1) w.heap.size rtx gs):=Hi ((HST.out.retag fun j hj=>Tags.from_lt hj).later HB1.out)
     have HK1:Hid (KeyOff w1 w.heap.size (T.from wr.heap.size (gs.length+1,0)) gs.length A1 c1 kv):=Hi (keyOff_own ho1 HB.out.size fun j h1 h2=>Tags.from_ge h1)
     have HQ1:=Hi (HJ2.out w1 HBw1.out);clear HJ2 HO1 ho1 HB1 HST
     -- @Ab
     go_wp2_with fail;refine(HQ1.out).mono ?_;rintro q w2 ⟨v2,rfl,HO2,HB2⟩;have HBw2:=Hi (bthen HBw1.out HB2.out);clear HQ1
     by_cases h2:E2=0
     ·subst h2
      have ho2:=HO2.out rfl;obtain⟨A2,c2,hv2,-⟩:=ho2.shape;subst hv2
      -- @Ac
      rw[HAV1.out]at ho2 ⊢;obtain⟨T2,hT2⟩:∃ T2:Tags,T2=(T.from wr.heap.size (gs.length+1,0)).from w1.heap.size (0,3):=⟨_,rfl⟩
      have hT2l:∀ j,j < w1.heap.size→T2 j=(T.from wr.heap.size (gs.length+1,0)) j:=fun j hj=>by rw[hT2];exact Tags.from_lt hj
      have HST2:Hid (St w2 w.heap.size T2 (w.heap.size+1) w.heap.size rtx gs):=Hi ((HST1.out.retag hT2l).later HB2.out)
      have HK2:Hid (KeyOff w2 w.heap.size T2 gs.length A1 c1 kv):=Hi (by
       have h3:=HK1.out;refine⟨fun h0 => ?_,h3.room⟩
       obtain⟨b,off,a1,a2,a3,a4,a5⟩:=h3.at_ h0;exact⟨b,off,a1,a2,(hT2l b a4).trans a3,Nat.lt_of_lt_of_le a4 HB2.out.size,fun i hi=>cells_block (a5 i hi) (HB2.out.block b a4)⟩)
      have HT3:Hid (∀ j,(Value.slice A2 na c2).ownBlock=some j→T2 j=(0,3)∧w.heap.size≤j∧j < w2.heap.size):=Hi fun j hj=>by
       have h3:=OwnV.block ho2 hj;exact⟨by rw[hT2];exact Tags.from_ge h3.1,Nat.le_trans HBw1.out.size h3.1,h3.2⟩
      have HO2':=Hi ho2;have HAT:=Hi (at_any w2 w.heap.size T2 (w.heap.size+1) w.heap.size gs HST2.out kv A1 c1 na HK2.out (HEw.out.below HBw2.out hsz) HKV1.out.1 HKV1.out.2 (by have:=HGL.out;have:=HBN.out;omega) (by have:=HBN.out;omega) HBw2.out.size)
      unfold AtPost at HAT;rw[HPL.out]at HAT;have HPLT:Hid (grPl l1 kv < (grAt l1 kv na).length):=Hi (grPl_lt l1 kv na);have HW3:Hid (Wd (grAt l1 kv na) na (k*na) (k+2)):=Hi (wd_at HWD1.out kv);have HROW:Hid (rowP na l1 (kv,av)=putsP (grPl l1 kv) (grAt l1 kv na) 0 av):=Hi rfl;generalize grPl l1 kv=P at *;generalize grAt l1 kv na=l3 at *;clear HO2 ho2 hT2 hT2l HST1 HK1 HB2 HST2 HK2 HNO1
      -- @Ad
      go_wp2_with fail
      -- @Ad1
      refine(HAT.out).mono ?_
      -- @Ad2
      rintro q w3 ⟨T3,gs3,gB,rfl,HST3,HPL3,HBX3,HKP⟩
      -- @Ad3
      have HA3:Hid (OwnV w3 w1.heap.size (.slice A2 na c2) av):=Hi (ownV_same HO2'.out fun j hj=>by
       obtain⟨t1,t2,t3⟩:=HT3.out j hj;exact HKP.out.other j t2 t3 (by rw[t1];intro hu;have:=hu.2 rfl;simp at this))
      -- @Ad4
      have HTA:Hid (∀ j,(Value.slice A2 na c2).ownBlock=some j→T3 j=(0,3)):=Hi fun j hj=>by
       obtain⟨t1,t2,t3⟩:=HT3.out j hj;rw[HKP.out.tags j t3];exact t1
      have HBw3:=Hi (HBw2.out.trans HKP.out.below);clear HAT HKP HT3 HO2' HBw2
      -- @Ae
      go_wp2_with fail
      go_loopw [55] (fun i wi=>∃ (m:Nat) (T':Tags) (gs':List Gx),m≤na∧i = .int .i64 m∧Hid (St wi w.heap.size T' (w.heap.size+1) w.heap.size rtx gs')∧Hid (gs'.map Gx.plain=putsP P l3 0 (av.take m))∧Hid (OwnV wi w1.heap.size (.slice A2 na c2) av)∧Hid (∀ j,(Value.slice A2 na c2).ownBlock=some j→T' j=(0,3))∧Hid (∃ c,wi.heap[w.heap.size+1]? = some (.cells #[.slice (some ⟨gB,0,none⟩) gs'.length c,.map (some w.heap.size)] 120 (0,0)))∧Hid (Below w.heap.size w wi)) (fun i _=>na - (intOf i).toNat)
      case atStart=>exact⟨0,T3,gs3,Nat.zero_le _,rfl,HST3,HPL3,HA3,HTA,HBX3,HBw3⟩
      case round =>
       obtain⟨m,T',gs',hm,rfl,HSI,HPI,HAI,HTI,HXI,HBI⟩:=hrel
       -- @Af
       by_cases hlm:m < na
       ·have hma:m < av.length:=by rw[HAV1.out];exact hlm
        have hmz:(m:Int) < (na:Int):=by omega
        obtain⟨qa,ca,hqa,hqb,hql⟩:=ownV_form HAI.out (by omega)
        injection hqa with hqa hq2 hq3
        clear hq2 hq3;have hAI:=HAI.out;rw[hqa]at hAI HTI ⊢;obtain⟨y0,y1,y2⟩:=ownV_cells hAI m hma;have HTq:=Hi (HTI.out qa rfl);obtain⟨ci,hci⟩:=HXI.out;have hgi:=HSI.out.at_box hci;have hlen:gs'.length=l3.length:=by have h3:=congrArg List.length HPI.out;rw[List.length_map,puts_len]at h3;exact h3
        have hPg:P < gs'.length:=by rw[hlen];exact HPLT.out
        have hwi:=wd_puts P na (k+2) (av.take m) l3 0 (k*na) HW3.out;rw[←HPI.out]at hwi;obtain⟨hvn,hvx⟩:=wd_gx hwi hPg;have hmv:m < gs'[P].vs.length:=by rw[hvn];exact hlm
        obtain⟨gq,cq,hgq,hgB,hgl,hgt,-,hc0,hc1⟩:=hgi.cells P hPg
        injection hgq with hgq _ _
        injection hgq with hgq
        injection hgq with hgq _ _
        subst hgq;rw[hvn]at hc1;have HNI:=Hi (putsP_next P l3 hma);have hPc:(P:Int) < (gs'.length:Int):=by omega
        obtain⟨W5,hW5⟩:∃ W5:World,W5=wr.alloc (.cells #[.int .i64 av[m].k,.int .i64 av[m].i,.string av[m].s] 26):=⟨_,rfl⟩;have b5:Below wr.heap.size wr W5:=by rw[hW5];exact(Below.refl _ _).alloc (Nat.le_refl _) _
        have q5:VBox W5 wr.heap.size av[m]:=by rw[hW5];exact VBox.made wr av[m]
        obtain⟨p0,p1,p2⟩:=q5.cells;have HS5:Hid (St W5 w.heap.size (Tags.put T' wr.heap.size (0,9)) (w.heap.size+1) w.heap.size rtx gs'):=Hi ((HSI.out.retag fun j hj=>Tags.put_lt hj).later b5)
        have HT6:Hid (∀ j,(Value.slice (some ⟨qa,0,none⟩) na c2).ownBlock=some j→(Tags.put T' wr.heap.size (0,9)) j=(0,3)):=Hi fun j hj=>by
         have h3:=hj;simp only[Value.ownBlock,Option.some.injEq]at h3;rw[Tags.put_lt (by omega)]
         exact HTI.out j hj
        have t6a:((Tags.put T' wr.heap.size (0,9)) gB).1=0:=by rw[Tags.put_lt hgl,hgt]
        have t6b:((Tags.put T' wr.heap.size (0,9)) wr.heap.size).1=0:=by rw[Tags.put_at]
        have t6c:((Tags.put T' wr.heap.size (0,9)) (w.heap.size+1)).1=0:=by rw[Tags.put_lt HSI.out.lt.1,HSI.out.bB.2]
        have HX5:=Hi ((b5.block (w.heap.size+1) HSI.out.lt.1).trans hci);have HA5:=Hi (OwnV.later hAI b5);have HBw5:=Hi (bthen HBI.out b5);have g5:=(b5.cell (p:=⟨gB,P*2+1,none⟩) hgl).trans hc1;have hgl5:gB < W5.heap.size:=Nat.lt_of_lt_of_le hgl b5.size;have hqa5:qa < W5.heap.size:=Nat.lt_of_lt_of_le hql b5.size;have hbx5:wr.heap.size < W5.heap.size:=q5.lt;have HW5:=Hi hW5
        have hll:gs'[P].vs[m].2.length≤2000000:=by
         have h3:=hvx m hmv;rw[List.length_take]at h3;have h4:=mul_le (Nat.le_of_lt (Nat.lt_of_lt_of_le hlt HBN.out.1)) HBN.out.2;have:=HBN.out.2
         omega
        have HPUT:=Hi (fun(hk:av[m].k≠0)=>St.puts2 HS5.out HX5.out hPg hmv av[m] hll HBw5.out.size hk)
        rw[HPI.out,←HNI.out]at HPUT;have HPLZ:Hid (av[m].k=0→gs'.map Gx.plain=putsP P l3 0 (av.take (m+1))):=Hi fun hk=>by rw[HPI.out,HNI.out,putP_none _ _ _ _ hk]
        have hvcl:gs'[P].vb < W5.heap.size:=Nat.lt_of_lt_of_le (hgi.each P hPg).lt b5.size;have HRV:=Hi (hgi.each P hPg).row;have hcv:∀ X:World,X.heap[gs'[P].vb]? = some (.cells (gs'[P].vs.map (·.1)).toArray 38 (0,0))→X.cell? ⟨gs'[P].vb,m,none⟩=some gs'[P].vs[m].1∧X.frozen? ⟨gs'[P].vb,m,none⟩=false:=fun X h=>⟨by rw[Lib.cell_of_heap h];simp[hmv],Lib.frozen_of_heap h m⟩
        have HCV:=Hi hcv;have hne1:gs'[P].vb≠gB:=fun e=>by have h3:=(hgi.each P hPg).vb.2;rw[e,hgt]at h3;simp at h3
        have hne2:gs'[P].vb≠wr.heap.size:=fun e=>by have h3:=(hgi.each P hPg).lt;omega
        obtain⟨gsn,hgsn⟩:∃ gsn,gsn=gs'.length:=⟨_,rfl⟩;have HXZ:Hid (∃ c,W5.heap[w.heap.size+1]? = some (.cells #[.slice (some ⟨gB,0,none⟩) gs'.length c,.map (some w.heap.size)] 120 (0,0))):=Hi ⟨ci,HX5.out⟩;rw[←hgsn]at HX5 HXZ hPc HPUT;obtain⟨T6,hT6⟩:∃ T6:Tags,T6=Tags.put T' wr.heap.size (0,9):=⟨_,rfl⟩;rw[←hT6]at HS5 HT6 t6a t6b t6c HPUT;generalize gs'[P].vs[m].1=ov at *;generalize gs'[P].vs[m].2=oxs at *;generalize gs'[P].vb=vc at *;generalize hak:av[m]=xv at *;obtain⟨vk,vi,vs⟩:=xv;dsimp only at y0 y1 y2 p0 p1 p2 HPUT HPLZ;clear hT6 hci hgi hlen hwi hvn hvx hmv hc0 hc1 hW5 b5 q5 hll hAI hcv hak HNI HSI HPI HAI HXI HBI HRV hma hqa
        -- @Ag
        by_cases hv0:vk=0
        ·subst hv0
         have HPZ:=Hi (HPLZ.out rfl);clear HPUT HPLZ HCV
         go_wp2_with (rw[←HW5.out])
         go_roundw
         case rel=>exact⟨m+1,T6,gs',by omega,by go_num,HS5,HPZ,HA5,HT6,⟨ci,by rw[←hgsn];exact HX5.out⟩,HBw5⟩
         case measure=>simp[intOf];omega
        ·have hvb:(vk != 0)=true:=by simpa using hv0
         obtain⟨v',w4,GS,T5,hrun,hr4,hr5,hst5,hT5,hk4,hk5,hbl5,hGP,hGL,⟨vA,vn,vcc,hvv⟩⟩:=HPUT.out hv0;subst hvv;obtain⟨z0,-⟩:=HCV.out W5 hr5;have z1:(W5.alloc (.cells #[.int .i64 vk,.int .i64 vi,.string vs] 26)).cell? ⟨vc,m,none⟩=some ov:=(World.cell?_alloc_lt _ _ ⟨vc,m,none⟩ hvcl).trans z0;obtain⟨z4,z5⟩:=HCV.out w4 hr4;have cell4:∀ {b o:Nat},b < W5.heap.size→(T6 b).1=0→w4.cell? ⟨b,o,none⟩=W5.cell? ⟨b,o,none⟩:=fun {b o} h3 h4=>by simp only[World.cell?,hk4 b h3 h4]
         have cell5:∀ {b o:Nat},b < W5.heap.size→(T6 b).1=0→(w4.setCell ⟨vc,m,none⟩ (.slice vA vn vcc)).cell? ⟨b,o,none⟩=W5.cell? ⟨b,o,none⟩:=fun {b o} h3 h4=>by simp only[World.cell?,hk5 b h3 h4]
         have hrun':(Builtin.append_ #[38,38] 38 #[ov,.slice (some ⟨W5.heap.size,0,none⟩) 1 1]).run Tryz.prog ((W5.alloc (.cells #[.int .i64 vk,.int .i64 vi,.string vs] 26)).drew) = .ok (.slice vA vn vcc) w4:=hrun;clear hrun;have k4:=(cell4 (o:=P*2+1) hgl5 t6a).trans g5;have HST6:Hid (St (w4.setCell ⟨vc,m,none⟩ (.slice vA vn vcc)) w.heap.size T5 (w.heap.size+1) w.heap.size rtx GS):=Hi hst5;have HPL6:Hid (GS.map Gx.plain=putsP P l3 0 (av.take (m+1))):=Hi hGP;have HA6:Hid (OwnV (w4.setCell ⟨vc,m,none⟩ (.slice vA vn vcc)) w1.heap.size (.slice (some ⟨qa,0,none⟩) na c2) av):=Hi (ownV_same HA5.out fun j hj=>hk5 j (OwnV.block HA5.out hj).2 (by rw[HT6.out j hj]))
         have HT7:Hid (∀ j,(Value.slice (some ⟨qa,0,none⟩) na c2).ownBlock=some j→T5 j=(0,3)):=Hi fun j hj=>(hT5 j (OwnV.block HA5.out hj).2).trans (HT6.out j hj)
         have HX6:Hid (∃ c,(w4.setCell ⟨vc,m,none⟩ (.slice vA vn vcc)).heap[w.heap.size+1]? = some (.cells #[.slice (some ⟨gB,0,none⟩) GS.length c,.map (some w.heap.size)] 120 (0,0))):=Hi ⟨ci,by rw[hGL];exact(hk5 (w.heap.size+1) HS5.out.lt.1 t6c).trans HX5.out⟩
         have HB6:Hid (Below w.heap.size w (w4.setCell ⟨vc,m,none⟩ (.slice vA vn vcc))):=Hi (HBw5.out.trans hbl5);clear hr4 hr5 hst5 hT5 hk4 hk5 hbl5 hGP hGL HPUT HPLZ HCV HS5 HT6 HX5 HXZ HA5 HBw5 cell4 cell5 t6a t6b t6c hgsn HTI HTq
         -- @Ah
         go_upto_region 18 with (rw[←HW5.out])
         -- @Ai
         refine wp_thenG fun K1 hK1 => ?_
         go_cut [78] (fun s78 wx=>wx=w4.setCell ⟨vc,m,none⟩ (.slice vA vn vcc))
         case first =>
          go_region_law (first | (refine step_append_runV ((W5.alloc (.cells #[.int .i64 vk,.int .i64 vi,.string vs] 26)).drew) ?_ (.tmp 74) (.tmp 76) 38 38 ?_ ov (.slice (some ⟨W5.heap.size,0,none⟩) 1 1) ?_ ?_ hrun' ?_;rfl;rfl;rfl;rfl))
          all_goals (go_wp2_with fail;go_meet;rfl)
         case rest =>
          obtain rfl:=hcut;clear hrun' z0 z1 z4 z5 k4
          -- @Aj
          refine hK1 _ _ ?_;go_wp2_with fail
          go_roundw
          case rel=>exact⟨m+1,T5,GS,by omega,by go_num,HST6,HPL6,HA6,HT7,HX6,HB6⟩
          case measure=>simp[intOf];omega
       ·obtain rfl:m=na:=by omega
        rw[List.take_of_length_le (by rw[HAV1.out];exact Nat.le_refl _),←HROW.out,←HNX.out]at HPI
        have HC':Hid (∀ x∈el.take (k+1),x=0):=Hi (by
         rw[HTN.out];intro x hx;rcases List.mem_append.1 hx with hx | hx
         ·exact HC.out x hx
         ·rw[List.mem_singleton]at hx
          exact hx)
        clear HAI HTI HXI HC HNX HTN HROW;go_wp2_with fail
        go_roundw
        case rel=>exact⟨k+1,T',gs',by omega,by go_num,HSI,HPI,HC',HBI⟩
        case measure=>simp[intOf];omega
     ·have e0:(E2 != 0)=true:=by simpa using h2
      have HFIN:=Hi (HNO1.out w2 h2 HBw2);clear HNO1 HO2 HST1 HK1;go_wp2_with fail
      first | exact HFIN.out | (go_ret2;exact HFIN.out)
    ·have e0:(E1 != 0)=true:=by simpa using h1
     rw[if_neg h1]at HNO1;have HFIN:=Hi (HNO1.out w1 h1 HBw1);clear HNO1 HO1 HJ2;go_wp2_with fail
     first | exact HFIN.out | (go_ret2;exact HFIN.out)
   ·obtain rfl:k=n:=by omega
    obtain⟨lv,hbx,-⟩:=HST.out.box;have d0:wr.cell? ⟨w.heap.size+1,0,none⟩=some lv:=by rw[Lib.cell_of_heap hbx];rfl
    have HFIN:=Hi (HYES.out wr lv T gs HST hbx HPL.out HC.out HB);clear HYES HNO HST HPL HC HB hbx;go_wp2_with fail
    first | exact HFIN.out | (go_ret2;exact HFIN.out)
 ·rw[if_neg hk0]at hl00
  generalize keys.length=kl at *;have hkz:((kl:Int) == 0)=false:=by simp;omega
  have HST0:=HST1;have HB0:=HB1;obtain⟨T0,hT0⟩:∃ T0:Tags,T0=(fun k=>if k=w.heap.size then (0,1)else (0,2)):=⟨_,rfl⟩
  obtain⟨gs0,hgs0⟩:∃ gs0:List Gx,gs0 = []:=⟨_,rfl⟩;rw[←hT0,←hgs0]at HST0;have HPL0:Hid (gs0.map Gx.plain=l0):=Hi (by rw[hgs0,←hl00];rfl)
  clear hT0 hgs0 HST1 HB1;go_enter Tryz.func51,Tryz.ntmps51;go_wp2_with fail;rw[←HW1.out];clear HW1
  -- @L
  go_loopw [27] (fun i wr=>∃ (k:Nat) (T:Tags) (gs:List Gx),k≤n∧i = .int .i64 k∧Hid (St wr w.heap.size T (w.heap.size+1) w.heap.size rtx gs)∧Hid (gs.map Gx.plain=grpP na l0 (ps.take k))∧Hid (∀ x∈el.take k,x=0)∧Hid (Below w.heap.size w wr)) (fun i _=>n - (intOf i).toNat)
  case atStart=>exact⟨0,T0,gs0,Nat.zero_le _,rfl,HST0,HPL0,Hi (by simp),HB0⟩
  case round =>
   obtain⟨k,T,gs,hk,rfl,HST,HPL,HC,HB⟩:=hrel
   by_cases hlt:k < n
   ·obtain⟨hkr,hke,hkp,he,hp⟩:=HP.out k hlt
    obtain⟨ba,offa,hAa,hbla,hca⟩:=RA.out.1 (by omega)
    subst hAa;have e1:=(HB.out.cell (p:=⟨ba,_,none⟩) hbla).trans (hca k hkr);unfold BV.R.val at e1;have HJ:=Hi (HV.out k hkr wr HB.out);have HJ2:=Hi (fun W (hb:Below w.heap.size w W)=>HQ.out k hkr W hb)
    have HKV1:=Hi (HKV.out k hkr);have HAV1:=Hi (HAV.out k hkr);have HNX:Hid (grpP na l0 (ps.take (k+1))=rowP na (grpP na l0 (ps.take k)) ps[k]):=Hi (grpP_next na l0 hkp);rw[hp]at HNX;have HTN:Hid (el.take (k+1)=el.take k ++ [el[k]]):=Hi (take_next hke);have HNO1:=Hi (fun W (h:¬el[k]=0) (hb:Hid (Below w.heap.size w W))=>HNO.out k hke W HC.out h hb)
    have HWD1:=Hi (HWD.out k hk);rw[he]at HNO1 HTN;have HGL:Hid (gs.length≤k+1):=Hi (by have h1:=HWD1.out.1;rw[←HPL.out,List.length_map]at h1;exact h1)
    generalize projE keys rows[k].xs=E1 at *;generalize projV keys rows[k].xs=kv at *;generalize askE aggs rows[k].xs=E2 at *;generalize askV aggs rows[k].xs=av at *;generalize rows[k].A=xA at *;generalize rows[k].c=xc at *;generalize rows[k].xs.length=xl at *;generalize grpP na l0 (ps.take k)=l1 at *;have HBWr:=HB;have HEw:=Hi (HE'.out);clear hca he hp HNO HWD HV HQ HKV HAV HP HYES RA
    -- @a
    go_wp2_with fail;refine(HJ.out).mono ?_;rintro q w1 ⟨v1,rfl,HO1,HB1⟩;have HBw1:=Hi (bthen HB.out HB1.out);clear HJ
    by_cases h1:E1=0
    ·subst h1
     rw[if_pos rfl]at HNO1 HTN;have ho1:=HO1.out rfl;obtain⟨A1,c1,hv1,-⟩:=ho1.shape;subst hv1;have HST1:Hid (St w1 w.heap.size (T.from wr.heap.size (gs.length+1,0)) (w.heap.size+1) w.heap.size rtx gs):=Hi ((HST.out.retag fun j hj=>Tags.from_lt hj).later HB1.out)
     have HK1:Hid (KeyOff w1 w.heap.size (T.from wr.heap.size (gs.length+1,0)) gs.length A1 c1 kv):=Hi (keyOff_own ho1 HB.out.size fun j h1 h2=>Tags.from_ge h1)
     have HQ1:=Hi (HJ2.out w1 HBw1.out);clear HJ2 HO1 ho1 HB1 HST
     -- @b
     go_wp2_with fail;refine(HQ1.out).mono ?_;rintro q w2 ⟨v2,rfl,HO2,HB2⟩;have HBw2:=Hi (bthen HBw1.out HB2.out);clear HQ1
     by_cases h2:E2=0
     ·subst h2
      have ho2:=HO2.out rfl;obtain⟨A2,c2,hv2,-⟩:=ho2.shape;subst hv2
      -- @c
      rw[HAV1.out]at ho2 ⊢;obtain⟨T2,hT2⟩:∃ T2:Tags,T2=(T.from wr.heap.size (gs.length+1,0)).from w1.heap.size (0,3):=⟨_,rfl⟩
      have hT2l:∀ j,j < w1.heap.size→T2 j=(T.from wr.heap.size (gs.length+1,0)) j:=fun j hj=>by rw[hT2];exact Tags.from_lt hj
      have HST2:Hid (St w2 w.heap.size T2 (w.heap.size+1) w.heap.size rtx gs):=Hi ((HST1.out.retag hT2l).later HB2.out)
      have HK2:Hid (KeyOff w2 w.heap.size T2 gs.length A1 c1 kv):=Hi (by
       have h3:=HK1.out;refine⟨fun h0 => ?_,h3.room⟩
       obtain⟨b,off,a1,a2,a3,a4,a5⟩:=h3.at_ h0;exact⟨b,off,a1,a2,(hT2l b a4).trans a3,Nat.lt_of_lt_of_le a4 HB2.out.size,fun i hi=>cells_block (a5 i hi) (HB2.out.block b a4)⟩)
      have HT3:Hid (∀ j,(Value.slice A2 na c2).ownBlock=some j→T2 j=(0,3)∧w.heap.size≤j∧j < w2.heap.size):=Hi fun j hj=>by
       have h3:=OwnV.block ho2 hj;exact⟨by rw[hT2];exact Tags.from_ge h3.1,Nat.le_trans HBw1.out.size h3.1,h3.2⟩
      have HO2':=Hi ho2;have HAT:=Hi (at_any w2 w.heap.size T2 (w.heap.size+1) w.heap.size gs HST2.out kv A1 c1 na HK2.out (HEw.out.below HBw2.out hsz) HKV1.out.1 HKV1.out.2 (by have:=HGL.out;have:=HBN.out;omega) (by have:=HBN.out;omega) HBw2.out.size)
      unfold AtPost at HAT;rw[HPL.out]at HAT;have HPLT:Hid (grPl l1 kv < (grAt l1 kv na).length):=Hi (grPl_lt l1 kv na);have HW3:Hid (Wd (grAt l1 kv na) na (k*na) (k+2)):=Hi (wd_at HWD1.out kv);have HROW:Hid (rowP na l1 (kv,av)=putsP (grPl l1 kv) (grAt l1 kv na) 0 av):=Hi rfl;generalize grPl l1 kv=P at *;generalize grAt l1 kv na=l3 at *;clear HO2 ho2 hT2 hT2l HST1 HK1 HB2 HST2 HK2 HNO1
      -- @d
      go_wp2_with fail
      -- @d1
      refine(HAT.out).mono ?_
      -- @d2
      rintro q w3 ⟨T3,gs3,gB,rfl,HST3,HPL3,HBX3,HKP⟩
      -- @d3
      have HA3:Hid (OwnV w3 w1.heap.size (.slice A2 na c2) av):=Hi (ownV_same HO2'.out fun j hj=>by
       obtain⟨t1,t2,t3⟩:=HT3.out j hj;exact HKP.out.other j t2 t3 (by rw[t1];intro hu;have:=hu.2 rfl;simp at this))
      -- @d4
      have HTA:Hid (∀ j,(Value.slice A2 na c2).ownBlock=some j→T3 j=(0,3)):=Hi fun j hj=>by
       obtain⟨t1,t2,t3⟩:=HT3.out j hj;rw[HKP.out.tags j t3];exact t1
      have HBw3:=Hi (HBw2.out.trans HKP.out.below);clear HAT HKP HT3 HO2' HBw2
      -- @e
      go_wp2_with fail
      go_loopw [55] (fun i wi=>∃ (m:Nat) (T':Tags) (gs':List Gx),m≤na∧i = .int .i64 m∧Hid (St wi w.heap.size T' (w.heap.size+1) w.heap.size rtx gs')∧Hid (gs'.map Gx.plain=putsP P l3 0 (av.take m))∧Hid (OwnV wi w1.heap.size (.slice A2 na c2) av)∧Hid (∀ j,(Value.slice A2 na c2).ownBlock=some j→T' j=(0,3))∧Hid (∃ c,wi.heap[w.heap.size+1]? = some (.cells #[.slice (some ⟨gB,0,none⟩) gs'.length c,.map (some w.heap.size)] 120 (0,0)))∧Hid (Below w.heap.size w wi)) (fun i _=>na - (intOf i).toNat)
      case atStart=>exact⟨0,T3,gs3,Nat.zero_le _,rfl,HST3,HPL3,HA3,HTA,HBX3,HBw3⟩
      case round =>
       obtain⟨m,T',gs',hm,rfl,HSI,HPI,HAI,HTI,HXI,HBI⟩:=hrel
       -- @f
       by_cases hlm:m < na
       ·have hma:m < av.length:=by rw[HAV1.out];exact hlm
        have hmz:(m:Int) < (na:Int):=by omega
        obtain⟨qa,ca,hqa,hqb,hql⟩:=ownV_form HAI.out (by omega)
        injection hqa with hqa hq2 hq3
        clear hq2 hq3;have hAI:=HAI.out;rw[hqa]at hAI HTI ⊢;obtain⟨y0,y1,y2⟩:=ownV_cells hAI m hma;have HTq:=Hi (HTI.out qa rfl);obtain⟨ci,hci⟩:=HXI.out;have hgi:=HSI.out.at_box hci;have hlen:gs'.length=l3.length:=by have h3:=congrArg List.length HPI.out;rw[List.length_map,puts_len]at h3;exact h3
        have hPg:P < gs'.length:=by rw[hlen];exact HPLT.out
        have hwi:=wd_puts P na (k+2) (av.take m) l3 0 (k*na) HW3.out;rw[←HPI.out]at hwi;obtain⟨hvn,hvx⟩:=wd_gx hwi hPg;have hmv:m < gs'[P].vs.length:=by rw[hvn];exact hlm
        obtain⟨gq,cq,hgq,hgB,hgl,hgt,-,hc0,hc1⟩:=hgi.cells P hPg
        injection hgq with hgq _ _
        injection hgq with hgq
        injection hgq with hgq _ _
        subst hgq;rw[hvn]at hc1;have HNI:=Hi (putsP_next P l3 hma);have hPc:(P:Int) < (gs'.length:Int):=by omega
        obtain⟨W5,hW5⟩:∃ W5:World,W5=wr.alloc (.cells #[.int .i64 av[m].k,.int .i64 av[m].i,.string av[m].s] 26):=⟨_,rfl⟩;have b5:Below wr.heap.size wr W5:=by rw[hW5];exact(Below.refl _ _).alloc (Nat.le_refl _) _
        have q5:VBox W5 wr.heap.size av[m]:=by rw[hW5];exact VBox.made wr av[m]
        obtain⟨p0,p1,p2⟩:=q5.cells;have HS5:Hid (St W5 w.heap.size (Tags.put T' wr.heap.size (0,9)) (w.heap.size+1) w.heap.size rtx gs'):=Hi ((HSI.out.retag fun j hj=>Tags.put_lt hj).later b5)
        have HT6:Hid (∀ j,(Value.slice (some ⟨qa,0,none⟩) na c2).ownBlock=some j→(Tags.put T' wr.heap.size (0,9)) j=(0,3)):=Hi fun j hj=>by
         have h3:=hj;simp only[Value.ownBlock,Option.some.injEq]at h3;rw[Tags.put_lt (by omega)]
         exact HTI.out j hj
        have t6a:((Tags.put T' wr.heap.size (0,9)) gB).1=0:=by rw[Tags.put_lt hgl,hgt]
        have t6b:((Tags.put T' wr.heap.size (0,9)) wr.heap.size).1=0:=by rw[Tags.put_at]
        have t6c:((Tags.put T' wr.heap.size (0,9)) (w.heap.size+1)).1=0:=by rw[Tags.put_lt HSI.out.lt.1,HSI.out.bB.2]
        have HX5:=Hi ((b5.block (w.heap.size+1) HSI.out.lt.1).trans hci);have HA5:=Hi (OwnV.later hAI b5);have HBw5:=Hi (bthen HBI.out b5);have g5:=(b5.cell (p:=⟨gB,P*2+1,none⟩) hgl).trans hc1;have hgl5:gB < W5.heap.size:=Nat.lt_of_lt_of_le hgl b5.size;have hqa5:qa < W5.heap.size:=Nat.lt_of_lt_of_le hql b5.size;have hbx5:wr.heap.size < W5.heap.size:=q5.lt;have HW5:=Hi hW5
        have hll:gs'[P].vs[m].2.length≤2000000:=by
         have h3:=hvx m hmv;rw[List.length_take]at h3;have h4:=mul_le (Nat.le_of_lt (Nat.lt_of_lt_of_le hlt HBN.out.1)) HBN.out.2;have:=HBN.out.2
         omega
        have HPUT:=Hi (fun(hk:av[m].k≠0)=>St.puts2 HS5.out HX5.out hPg hmv av[m] hll HBw5.out.size hk)
        rw[HPI.out,←HNI.out]at HPUT;have HPLZ:Hid (av[m].k=0→gs'.map Gx.plain=putsP P l3 0 (av.take (m+1))):=Hi fun hk=>by rw[HPI.out,HNI.out,putP_none _ _ _ _ hk]
        have hvcl:gs'[P].vb < W5.heap.size:=Nat.lt_of_lt_of_le (hgi.each P hPg).lt b5.size;have HRV:=Hi (hgi.each P hPg).row;have hcv:∀ X:World,X.heap[gs'[P].vb]? = some (.cells (gs'[P].vs.map (·.1)).toArray 38 (0,0))→X.cell? ⟨gs'[P].vb,m,none⟩=some gs'[P].vs[m].1∧X.frozen? ⟨gs'[P].vb,m,none⟩=false:=fun X h=>⟨by rw[Lib.cell_of_heap h];simp[hmv],Lib.frozen_of_heap h m⟩
        have HCV:=Hi hcv;have hne1:gs'[P].vb≠gB:=fun e=>by have h3:=(hgi.each P hPg).vb.2;rw[e,hgt]at h3;simp at h3
        have hne2:gs'[P].vb≠wr.heap.size:=fun e=>by have h3:=(hgi.each P hPg).lt;omega
        obtain⟨gsn,hgsn⟩:∃ gsn,gsn=gs'.length:=⟨_,rfl⟩;have HXZ:Hid (∃ c,W5.heap[w.heap.size+1]? = some (.cells #[.slice (some ⟨gB,0,none⟩) gs'.length c,.map (some w.heap.size)] 120 (0,0))):=Hi ⟨ci,HX5.out⟩;rw[←hgsn]at HX5 HXZ hPc HPUT;obtain⟨T6,hT6⟩:∃ T6:Tags,T6=Tags.put T' wr.heap.size (0,9):=⟨_,rfl⟩;rw[←hT6]at HS5 HT6 t6a t6b t6c HPUT;generalize gs'[P].vs[m].1=ov at *;generalize gs'[P].vs[m].2=oxs at *;generalize gs'[P].vb=vc at *;generalize hak:av[m]=xv at *;obtain⟨vk,vi,vs⟩:=xv;dsimp only at y0 y1 y2 p0 p1 p2 HPUT HPLZ;clear hT6 hci hgi hlen hwi hvn hvx hmv hc0 hc1 hW5 b5 q5 hll hAI hcv hak HNI HSI HPI HAI HXI HBI HRV hma hqa
        -- @g
        by_cases hv0:vk=0
        ·subst hv0
         have HPZ:=Hi (HPLZ.out rfl);clear HPUT HPLZ HCV
         go_wp2_with (rw[←HW5.out])
         go_roundw
         case rel=>exact⟨m+1,T6,gs',by omega,by go_num,HS5,HPZ,HA5,HT6,⟨ci,by rw[←hgsn];exact HX5.out⟩,HBw5⟩
         case measure=>simp[intOf];omega
        ·have hvb:(vk != 0)=true:=by simpa using hv0
         obtain⟨v',w4,GS,T5,hrun,hr4,hr5,hst5,hT5,hk4,hk5,hbl5,hGP,hGL,⟨vA,vn,vcc,hvv⟩⟩:=HPUT.out hv0;subst hvv;obtain⟨z0,-⟩:=HCV.out W5 hr5;have z1:(W5.alloc (.cells #[.int .i64 vk,.int .i64 vi,.string vs] 26)).cell? ⟨vc,m,none⟩=some ov:=(World.cell?_alloc_lt _ _ ⟨vc,m,none⟩ hvcl).trans z0;obtain⟨z4,z5⟩:=HCV.out w4 hr4;have cell4:∀ {b o:Nat},b < W5.heap.size→(T6 b).1=0→w4.cell? ⟨b,o,none⟩=W5.cell? ⟨b,o,none⟩:=fun {b o} h3 h4=>by simp only[World.cell?,hk4 b h3 h4]
         have cell5:∀ {b o:Nat},b < W5.heap.size→(T6 b).1=0→(w4.setCell ⟨vc,m,none⟩ (.slice vA vn vcc)).cell? ⟨b,o,none⟩=W5.cell? ⟨b,o,none⟩:=fun {b o} h3 h4=>by simp only[World.cell?,hk5 b h3 h4]
         have hrun':(Builtin.append_ #[38,38] 38 #[ov,.slice (some ⟨W5.heap.size,0,none⟩) 1 1]).run Tryz.prog ((W5.alloc (.cells #[.int .i64 vk,.int .i64 vi,.string vs] 26)).drew) = .ok (.slice vA vn vcc) w4:=hrun;clear hrun;have k4:=(cell4 (o:=P*2+1) hgl5 t6a).trans g5;have HST6:Hid (St (w4.setCell ⟨vc,m,none⟩ (.slice vA vn vcc)) w.heap.size T5 (w.heap.size+1) w.heap.size rtx GS):=Hi hst5;have HPL6:Hid (GS.map Gx.plain=putsP P l3 0 (av.take (m+1))):=Hi hGP;have HA6:Hid (OwnV (w4.setCell ⟨vc,m,none⟩ (.slice vA vn vcc)) w1.heap.size (.slice (some ⟨qa,0,none⟩) na c2) av):=Hi (ownV_same HA5.out fun j hj=>hk5 j (OwnV.block HA5.out hj).2 (by rw[HT6.out j hj]))
         have HT7:Hid (∀ j,(Value.slice (some ⟨qa,0,none⟩) na c2).ownBlock=some j→T5 j=(0,3)):=Hi fun j hj=>(hT5 j (OwnV.block HA5.out hj).2).trans (HT6.out j hj)
         have HX6:Hid (∃ c,(w4.setCell ⟨vc,m,none⟩ (.slice vA vn vcc)).heap[w.heap.size+1]? = some (.cells #[.slice (some ⟨gB,0,none⟩) GS.length c,.map (some w.heap.size)] 120 (0,0))):=Hi ⟨ci,by rw[hGL];exact(hk5 (w.heap.size+1) HS5.out.lt.1 t6c).trans HX5.out⟩
         have HB6:Hid (Below w.heap.size w (w4.setCell ⟨vc,m,none⟩ (.slice vA vn vcc))):=Hi (HBw5.out.trans hbl5);clear hr4 hr5 hst5 hT5 hk4 hk5 hbl5 hGP hGL HPUT HPLZ HCV HS5 HT6 HX5 HXZ HA5 HBw5 cell4 cell5 t6a t6b t6c hgsn HTI HTq
         -- @h
         go_upto_region 18 with (rw[←HW5.out])
         -- @i
         refine wp_thenG fun K1 hK1 => ?_
         go_cut [78] (fun s78 wx=>wx=w4.setCell ⟨vc,m,none⟩ (.slice vA vn vcc))
         case first =>
          go_region_law (first | (refine step_append_runV ((W5.alloc (.cells #[.int .i64 vk,.int .i64 vi,.string vs] 26)).drew) ?_ (.tmp 74) (.tmp 76) 38 38 ?_ ov (.slice (some ⟨W5.heap.size,0,none⟩) 1 1) ?_ ?_ hrun' ?_;rfl;rfl;rfl;rfl))
          all_goals (go_wp2_with fail;go_meet;rfl)
         case rest =>
          obtain rfl:=hcut;clear hrun' z0 z1 z4 z5 k4
          -- @j
          refine hK1 _ _ ?_;go_wp2_with fail
          go_roundw
          case rel=>exact⟨m+1,T5,GS,by omega,by go_num,HST6,HPL6,HA6,HT7,HX6,HB6⟩
          case measure=>simp[intOf];omega
       ·obtain rfl:m=na:=by omega
        rw[List.take_of_length_le (by rw[HAV1.out];exact Nat.le_refl _),←HROW.out,←HNX.out]at HPI
        have HC':Hid (∀ x∈el.take (k+1),x=0):=Hi (by
         rw[HTN.out];intro x hx;rcases List.mem_append.1 hx with hx | hx
         ·exact HC.out x hx
         ·rw[List.mem_singleton]at hx
          exact hx)
        clear HAI HTI HXI HC HNX HTN HROW;go_wp2_with fail
        go_roundw
        case rel=>exact⟨k+1,T',gs',by omega,by go_num,HSI,HPI,HC',HBI⟩
        case measure=>simp[intOf];omega
     ·have e0:(E2 != 0)=true:=by simpa using h2
      have HFIN:=Hi (HNO1.out w2 h2 HBw2);clear HNO1 HO2 HST1 HK1;go_wp2_with fail
      first | exact HFIN.out | (go_ret2;exact HFIN.out)
    ·have e0:(E1 != 0)=true:=by simpa using h1
     rw[if_neg h1]at HNO1;have HFIN:=Hi (HNO1.out w1 h1 HBw1);clear HNO1 HO1 HJ2;go_wp2_with fail
     first | exact HFIN.out | (go_ret2;exact HFIN.out)
   ·obtain rfl:k=n:=by omega
    obtain⟨lv,hbx,-⟩:=HST.out.box;have d0:wr.cell? ⟨w.heap.size+1,0,none⟩=some lv:=by rw[Lib.cell_of_heap hbx];rfl
    have HFIN:=Hi (HYES.out wr lv T gs HST hbx HPL.out HC.out HB);clear HYES HNO HST HPL HC HB hbx;go_wp2_with fail
    first | exact HFIN.out | (go_ret2;exact HFIN.out)
end Go.Proofs.YtcicpjgnpcnnmaaGreatDoor
