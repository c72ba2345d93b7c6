import Derived.Test.YtcicpjgnpcnnmaaGreatDoorQ30
import Derived.Sort.Defs
set_option maxRecDepth 100000
set_option maxHeartbeats 8000000
set_option linter.unusedSimpArgs false
set_option linter.unusedVariables false
namespace Go.Proofs.YtcicpjgnpcnnmaaGreatDoor
open Go.RowKit
theorem made_rows(n:Nat)(h:n≤1000000)(w:World):(Instr.makeSlice 22 (.int .i64 (n:Int)) (.int .i64 (n:Int))).run Tryz.prog w = .ok (.slice (some ⟨w.heap.size,0,none⟩) n n) (w.alloc (.cells (List.replicate n (Value.slice none 0 0)).toArray 39)):=by
 obtain⟨i0,hi,hz0,hz1,hz2⟩:=infoRp;have:=run_make (P:=Tryz.prog) w 22 39 i0 _ Tryz.underlying22 hi hz0 .i64 .i64 n n (by omega) (by omega) (by rw[hz2];omega) (by omega)
 rw[this,Int.toNat_natCast,hz1]
 have e:madeCells (Value.slice none 0 0).cells (n*1)=(List.replicate n (Value.slice none 0 0)).toArray:=by
  apply Array.ext
  ·simp[madeCells]
  ·intro i h1 h2
   have hz:(Value.slice none 0 0).cells=#[Value.slice none 0 0]:=rfl
   simp[madeCells,hz,Nat.mod_one]
 rw[e]
theorem rowOff_nil(w:World)(B:Nat)(g:Option Nat)(A:Option Addr)(c:Nat):RowOff w B g A c []:=⟨fun h=>by simp at h,Nat.zero_le _⟩
theorem ownR_made(w:World)(n:Nat)(hn:n≤1000000):OwnR (w.alloc (.cells (List.replicate n (Value.slice none 0 0)).toArray 39)) w.heap.size (.slice (some ⟨w.heap.size,0,none⟩) n n) (List.replicate n []):=by
 refine⟨List.replicate n ⟨none,0,[]⟩,by simp,⟨by simp,.inr ⟨w.heap.size,n,_,by simp,Nat.le_refl _,heap_alloc_new w _,by simp,by unfold maxLen;omega,by simp,?_⟩⟩,fun r hr => ?_⟩
 ·simp[BV.R.val]
 ·rw[List.eq_of_mem_replicate hr]
  exact rowOff_nil _ _ _ _ _
theorem ownR_put{w:World}{B g n c:Nat}{l:List (List BV.V)}(h:OwnR w B (.slice (some ⟨g,0,none⟩) n c) l)(k:Nat)(hk:k < l.length)(A:Option Addr)(cc:Nat)(xs:List BV.V)(hx:RowOff w B (some g) A cc xs) :
  OwnR (w.setCell ⟨g,k,none⟩ (.slice A xs.length cc)) B (.slice (some ⟨g,0,none⟩) n c) (l.set k xs)∧∃ v0,w.cell? ⟨g,k,none⟩=some v0∧w.frozen? ⟨g,k,none⟩=false:=by
 obtain⟨rs,hl,ho,hr⟩:=h;have hkr:k < rs.length:=by rw[←hl,List.length_map]at hk;exact hk
 have hn:n=rs.length:=by
  rcases ho.2 with ⟨hv,-⟩ | ⟨_,_,_,hv,-⟩
  ·cases hv
  ·injection hv
 subst hn;have h3:=(World.ownsRow.stored ho k (.slice A xs.length cc)).1;have hoff:∀ {A' c' xs'},RowOff w B (some g) A' c' xs'→RowOff (w.setCell ⟨g,k,none⟩ (.slice A xs.length cc)) B (some g) A' c' xs':=fun hx'=>hx'.same (by simp) fun j _ _ hne=>Below.heap_setCell _ _ _ _ (fun e=>hne (by rw[e]))
 refine⟨⟨rs.set k ⟨A,cc,xs⟩,by rw[List.map_set,hl],?_,fun r hr' => ?_⟩,⟨_,by rw[World.ownsRow.cellAt ho k (by omega)];exact List.getElem?_eq_getElem (by simpa using hkr),World.ownsRow.frozenAt ho k⟩⟩
 ·rw[List.length_set,List.map_set]
  exact h3
 ·rcases List.mem_or_eq_of_mem_set hr' with h | h
  ·exact hoff (hr r h)
  ·rw[h];exact hoff hx
theorem put_next{l:List (List BV.V)}{k n:Nat}(hk:k < l.length)(hn:n=l.length):(l.take k++List.replicate (n - k) []).set k l[k]=l.take (k+1)++List.replicate (n - (k+1)) []:=by
 have h1:(l.take k).length=k:=by rw[List.length_take];omega
 rw[List.set_append_right _ _ (by omega),h1,Nat.sub_self,take_next hk]
 have h2:n - k=(n - (k+1))+1:=by omega
 rw[h2,List.replicate_succ,List.set_cons_zero,List.append_assoc]
 rfl
theorem rowsAt_later{w w':World}{A:Option Addr}{rs:List BV.R}(h:BV.RowsAt w w.heap.size A rs)(hb:Below w.heap.size w w'):BV.RowsAt w' w'.heap.size A rs:=by
 have h2:=h.below hb;refine⟨fun h0 => ?_,fun r hr=>(h2.2 r hr).mono hb.size⟩
 obtain⟨b,off,hA,hlt,hc⟩:=h2.1 h0;exact⟨b,off,hA,Nat.lt_of_lt_of_le hlt hb.size,hc⟩
def evW(W:Int):Nat:=((W.tmod 6+6).tmod 6).toNat
theorem evW_eq(W:Int):(evW W:Int)=(wrap64 (W.tmod 6+6)).tmod 6∧evW W≤5:=by
 have a:=Int.tmod_lt_of_pos W (b:=6) (by omega)
 have b : -6 < W.tmod 6:=by
  have:=Int.tmod_lt_of_pos (-W) (b:=6) (by omega)
  rw[Int.neg_tmod]at this
  omega
 have hw:wrap64 (W.tmod 6+6)=W.tmod 6+6:=by unfold wrap64;omega
 have c:=Int.tmod_lt_of_pos (W.tmod 6+6) (b:=6) (by omega)
 have d:=Int.tmod_nonneg 6 (show 0≤W.tmod 6+6 by omega)
 unfold evW;rw[hw]
 omega
def evR(w:Nat)(r:List BV.V):List BV.V:=r.take w++List.replicate (w - r.length) zW
theorem evR_len(w:Nat)(r:List BV.V):(evR w r).length=w:=by
 unfold evR;rw[List.length_append,List.length_take,List.length_replicate]
 omega
def evOk(rs:List BV.R):Bool:=decide (rs.length≤30) && BV.few rs 1500 && rs.all fun r=>BV.chkR r.xs == 0
def Evened(w:World)(W:Int)(rs:List BV.R)(q:Ending)(w':World):Prop:=∃ v,q = .returned (.tuple #[v,.int .i64 (evW W),.bool (evOk rs)])∧Hid (evOk rs=true→OwnR w' w.heap.size v ((rs.map BV.R.xs).map (evR (evW W))))∧Hid (Below w.heap.size w w')
theorem take_at{w:World}{B:Nat}{A:Option Addr}{xs:List BV.V}(h:BV.RowAt w B A xs)(m:Nat):BV.RowAt w B A (xs.take m):=fun h0=>by
 obtain⟨b,off,hA,hlt,hc⟩:=h (by rw[List.length_take]at h0;omega)
 exact⟨b,off,hA,hlt,fun j hj=>by rw[List.getElem_take];exact hc j (by rw[List.length_take]at hj;omega)⟩
theorem one_at(w:World)(v:BV.V):BV.RowAt (w.alloc (.cells #[.int .i64 v.k,.int .i64 v.i,.string v.s] 26)) (w.alloc (.cells #[.int .i64 v.k,.int .i64 v.i,.string v.s] 26)).heap.size (some ⟨w.heap.size,0,none⟩) [v]:=fun _=>by
 have hn:=heap_alloc_new w (.cells #[.int .i64 v.k,.int .i64 v.i,.string v.s] 26);refine⟨w.heap.size,0,rfl,by simp,fun j hj => ?_⟩
 have hj0:j=0:=by simpa using hj
 subst hj0;refine⟨?_,?_,?_⟩ <;> rw[Lib.cell_of_heap hn] <;> rfl
theorem evR_min{x:List BV.V}{mm m j:Nat}(h:mm=min x.length m)(hj:j=m - x.length):x.take mm++List.replicate j zW=evR m x:=by
 subst h hj;unfold evR;rcases Nat.le_total x.length m with h | h
 ·rw[Nat.min_eq_left h,List.take_length,List.take_of_length_le h]
 ·rw[Nat.min_eq_right h]
theorem below_grown{B:Nat}{w w1 w2:World}{g:Option Nat}(h:Below B w w1)(hg:w1.grownBy w2 g)(hB:B≤w1.heap.size)(h':∀ k,g=some k→B≤k):Below B w w2 :=
 ⟨hg.os.trans h.os,hg.tape.trans h.tape,hg.output.trans h.output,Nat.le_trans h.size hg.size,fun k hk=>(hg.block k (by omega) (fun e=>by have:=h' k (by first | exact e | exact e.symm);omega)).trans (h.block k hk)⟩
theorem pad_more{w3 wr:World}{A:Option Addr}{n c:Nat}{xs:List BV.V}{j:Nat}(HY:OwnV wr w3.heap.size (.slice A n c) (xs++List.replicate j zW))(hb:Below w3.heap.size w3 wr){l:Nat}(hl:xs.length=l)(hm:l+j≤1000) :
  ∃ A' c' w',(Builtin.append_ #[39,39] 39 #[.slice A n c,.slice (some ⟨wr.heap.size,0,none⟩) 1 1]).run Tryz.prog (wr.alloc (.cells #[.int .i64 0,.int .i64 0,.string ⟨#[]⟩] 26)) = .ok (.slice A' (l+(j+1)) c') w'∧Hid (OwnV w' w3.heap.size (.slice A' (l+(j+1)) c') (xs++List.replicate (j+1) zW))∧Hid (Below w3.heap.size w3 w'):=by
 subst hl;have hs:=hb.size;have hy:=OwnV.alloc HY (.cells #[.int .i64 0,.int .i64 0,.string ⟨#[]⟩] 26);have ha:=hb.alloc hs (.cells #[.int .i64 0,.int .i64 0,.string ⟨#[]⟩] 26);obtain⟨v,w6,hrun,ho,hg,-⟩:=ownV_app 39 39 Tryz.underlying39 hy [zW] (some ⟨wr.heap.size,0,none⟩) 1 (one_at wr zW) (by simp;omega) (by simp;omega)
 rw[List.append_assoc,show List.replicate j zW ++ [zW]=List.replicate (j+1) zW from by rw[List.replicate_succ']]at ho
 obtain⟨A',c',rfl,-⟩:=ho.shape;rw[List.length_append,List.length_replicate]at hrun ho;exact⟨A',c',w6,hrun,Hi ho,Hi (below_grown ha hg (by simp;omega) fun k hk=>(OwnV.block hy hk).1)⟩
theorem even_put{w wr:World}{o:Value}{l:List (List BV.V)}(ho:OwnR wr w.heap.size o l)(hb:Below w.heap.size w wr)(A:Option Addr)(c:Nat)(xs:List BV.V)(hoff:RowOff wr w.heap.size o.ownBlock A c xs)(hl:l.length≤1000000){n:Nat}(hn:xs.length=n) :
  ∃ v' w',(Builtin.append_ #[22,22] 22 #[o,.slice (some ⟨wr.heap.size,0,none⟩) 1 1]).run Tryz.prog (wr.alloc (.cells #[.slice A n c] 39)) = .ok v' w'∧Hid (OwnR w' w.heap.size v' (l ++ [xs]))∧Hid (Below w.heap.size w w'):=by
 subst hn;have hs:=hb.size;obtain⟨v,w6,hrun,h,hg⟩:=ownR_app ho A c xs hoff hs hl;exact⟨v,w6,hrun,Hi h,Hi (below_grown (hb.alloc hs _) hg (by simp;omega) fun k hk=>(ho.lt k hk).1)⟩
theorem even_any(W:Int)(rs:List BV.R)(A:Option Addr)(ca:Nat)(w:World)(ha:BV.RowsAt w w.heap.size A rs)(hl:rs.length≤140737488355328)(hs:BV.Small rs)(hcap:∀ r∈rs,r.xs.length≤r.c) :
  Calls Tryz.prog 8 #[.agg #[.int .i64 W,.slice A rs.length ca]] w (Evened w W rs):=by
 obtain⟨n,hn⟩:∃ n,n=rs.length:=⟨_,rfl⟩;obtain⟨a,haa⟩:∃ a,rs.map BV.R.xs=a:=⟨_,rfl⟩;have hlA:a.length=n:=by rw[←haa,List.length_map,hn]
 have HA:Hid (∀ k (h:k < n),∃ h':k < rs.length,∃ h'':k < a.length,rs[k].xs=a[k]):=Hi fun k h=>⟨by omega,by omega,by subst haa;simp⟩
 obtain⟨m,hm⟩:∃ m,m=evW W:=⟨_,rfl⟩;obtain⟨he,hm5⟩:=evW_eq W;rw[←hm]at he hm5
 have HOK:Hid (∀ b,(decide (n≤30) && BV.few rs 1500 && (a.all fun r=>BV.chkR r == 0))=b→evOk rs=b):=Hi fun b hb=>by
  rw[←hb,hn,←haa];unfold evOk;rw[List.all_map]
  rfl
 have HFW:=Hi (fun W' (hb:Below w.heap.size w W')=>BV.few_any rs A ca 1500 W' (rowsAt_later ha hb) hl hs (by omega) (by omega))
 have RA:=Hi ha;have CA:=Hi hcap;have SM:=Hi hs
 have HF:Hid (∀ v W',(∀ b,b=false→evOk rs=b)→Below w.heap.size w W'→Evened w W rs (.returned (.tuple #[v,.int .i64 m,.bool false])) W'):=Hi fun v W' h b=>by
  have h:=h false rfl;exact⟨v,by rw[h,hm],Hi (fun h'=>by rw[h]at h';cases h'),Hi b⟩
 have HT:Hid (∀ v W',evOk rs=true→Hid (OwnR W' w.heap.size v (a.map (evR m)))→Hid (Below w.heap.size w W')→Evened w W rs (.returned (.tuple #[v,.int .i64 m,.bool true])) W'):=Hi fun v W' h o b=>⟨v,by rw[h,hm],Hi (fun _=>by rw[haa,←hm];exact o.out),b⟩
 rw[←hn]at hl HFW ⊢;have HLA:=Hi hlA;obtain⟨W1,hW1⟩:∃ W1:World,W1=w.alloc (.cells #[.int .i64 W,.slice A n ca] 24):=⟨_,rfl⟩;have hb1:Below w.heap.size w W1:=by rw[hW1];exact(Below.refl _ _).alloc (Nat.le_refl _) _
 have hh1:W1.heap[w.heap.size]? = some (.cells #[.int .i64 W,.slice A n ca] 24 (0,0)):=by rw[hW1];exact heap_alloc_new w _
 have c0:W1.cell? ⟨w.heap.size,0,none⟩=some (.int .i64 W):=by rw[Lib.cell_of_heap hh1];rfl
 have c1:W1.cell? ⟨w.heap.size,1,none⟩=some (.slice A n ca):=by rw[Lib.cell_of_heap hh1];rfl
 have HW1:=Hi hW1;have HB1:=Hi hb1;have HH1:=Hi hh1;have hlt1:w.heap.size < W1.heap.size:=(Array.getElem?_eq_some_iff.1 hh1).1;have hWs:(wrap64 (W.tmod 6+6)).tmod 6=(m:Int):=he.symm;generalize hfew:BV.few rs 1500=fb at *;have HFEW:=Hi hfew;clear ha hs hcap hn haa hlA hm he hW1 hb1 hh1 hfew
 by_cases h30:n≤30
 ·have hgt:¬((n:Int) > 30):=by omega
  have hgt':¬((30:Int) < (n:Int)):=by omega
  go_enter Tryz.func8,Tryz.ntmps8
  go_wp2_with (rw[←HW1.out])
  refine(HFW.out W1 HB1.out).mono ?_;rintro e w2 ⟨rfl,b2⟩;have hh2:=(b2.block w.heap.size hlt1).trans HH1.out;have c0':w2.cell? ⟨w.heap.size,0,none⟩=some (.int .i64 W):=by rw[Lib.cell_of_heap hh2];rfl
  have c1':w2.cell? ⟨w.heap.size,1,none⟩=some (.slice A n ca):=by rw[Lib.cell_of_heap hh2];rfl
  have HB2:=Hi (bthen HB1.out b2);clear b2 hh2 c0 c1 HFW;cases fb
  ·have HFIN:=Hi (HF.out (.slice none 0 0) w2 (fun b hb=>by rw[hb];exact HOK.out false (by simp)) HB2.out)
   go_wp2_with fail
   go_ret3
   exact HFIN.out
  ·go_wp2_with fail
   go_loopw [29,6] (fun i ov wr=>∃ (k:Nat) (o:Value),o=ov∧k≤n∧i = .int .i64 k∧Hid (OwnR wr w.heap.size o ((a.take k).map (evR m)))∧Hid (∀ r∈a.take k,BV.chkR r=0)∧Hid (Below w.heap.size w wr)) (fun i _ _=>n - (intOf i).toNat)
   case atStart=>exact⟨0,_,rfl,Nat.zero_le _,rfl,Hi (OwnR.nil _ _),Hi (by simp),HB2⟩
   case round =>
    obtain⟨k,o,rfl,hk,rfl,HO,HC,HB⟩:=hrel
    by_cases hlt:k < n
    ·obtain⟨hkx,hka,hkk⟩:=HA.out k hlt
     obtain⟨ba,offa,hAa,hbla,hca⟩:=RA.out.1 (by omega)
     subst hAa;have e1:=(HB.out.cell (p:=⟨ba,_,none⟩) hbla).trans (hca k hkx);unfold BV.R.val at e1;have HX1:=Hi (fun W (hb:Below w.heap.size w W)=>(RA.out.2 rs[k] (List.getElem_mem hkx)).later hb)
     have hx2:=(SM.out rs[k] (List.getElem_mem hkx)).1;have hx3:=CA.out rs[k] (List.getElem_mem hkx);have HTN:=Hi (take_next hka);have HNX:Hid ((a.take (k+1)).map (evR m)=(a.take k).map (evR m) ++ [evR m a[k]]):=Hi (by rw[take_next hka,List.map_append];rfl)
     have HLT:Hid (((a.take k).map (evR m)).length≤1000000):=Hi (by rw[List.length_map,List.length_take];omega)
     have HBAD:Hid (¬BV.chkR a[k]=0→(a.all fun r=>BV.chkR r == 0)=false):=Hi fun h=>by
      rw[List.all_eq_false];exact⟨a[k],List.getElem_mem hka,by simpa using h⟩
     rw[hkk]at HX1 hx2 hx3 e1;have HCK:=Hi (BV.rcheckRow_any a[k] rs[k].A rs[k].c wr (HX1.out wr HB.out) (by omega))
     generalize rs[k].A=xA at *;generalize rs[k].c=xc at *;generalize a[k]=x at *;obtain⟨lx,hlx⟩:∃ lx,x.length=lx:=⟨_,rfl⟩;rw[hlx]at HCK e1 hx2 hx3;have HLX:=Hi hlx;clear hca hkk hlx;go_wp2_with fail;refine(HCK.out).mono ?_;rintro q w3 ⟨rfl,b3⟩;have HB3:=Hi (bthen HB.out b3);have HO3:=Hi (HO.out.later b3);clear b3 HCK HB HO e1
     by_cases hck:BV.chkR x=0
     ·rw[hck]
      obtain⟨mm,hmm⟩:∃ mm,mm=min lx m:=⟨_,rfl⟩;have hmin:min (lx:Int) (m:Int)=(mm:Int):=by omega
      have hmc:mm≤xc:=by omega
      have hmc':min lx m≤xc:=by omega
      have hml:(x.take mm).length=mm:=by rw[List.length_take,HLX.out];omega
      have hrow:=take_at (HX1.out w3 HB3.out) mm;obtain⟨xv,w4,hrun,ho4,hg4,-⟩:=ownV_app 39 39 Tryz.underlying39 (OwnV.nil w3 w3.heap.size) (x.take mm) xA xc hrow (by simp;omega) (Nat.le_refl _)
      rw[hml,hmm]at hrun;have HMM:=Hi hmm;have hmm1:mm≤m:=by omega
      rw[List.nil_append]at ho4;have hg4':Below w3.heap.size w3 w4:=⟨hg4.os,hg4.tape,hg4.output,hg4.size,fun k hk=>hg4.block k hk (by simp[Value.ownBlock])⟩
      have HG4:=Hi hg4';have HX4:Hid (OwnV w4 w3.heap.size xv (x.take mm++List.replicate 0 zW)):=Hi (by simpa using ho4)
      have HML:=Hi hml;have HNE:Hid (∀ k,o.ownBlock=some k→k < w3.heap.size):=Hi fun k hk=>(HO3.out.lt k hk).2
      have NC':Hid (∀ r∈a.take (k+1),BV.chkR r=0):=by
       rw[HTN.out];refine Hi fun r hr => ?_
       rcases List.mem_append.1 hr with h | h
       ·exact HC.out r h
       ·rw[List.mem_singleton]at h
        rw[h];exact hck
      have h34:w.heap.size≤w3.heap.size:=HB3.out.size;clear hck hrow ho4 hg4 hg4' HX1 HBAD hml;cases xA
      all_goals
       go_wp2_with (at_builtin;refine Lib.wpList_append_run_sl _ rfl _ _ 39 rfl _ _ rfl rfl hrun ?_)
       clear hmin hmm hmc hmc'
       go_loopw [9] (fun yv wr=>∃ (j:Nat) (y:Value),y=yv∧mm+j≤m∧Hid (OwnV wr w3.heap.size y (x.take mm++List.replicate j zW))∧Hid (Below w3.heap.size w3 wr)) (fun yv _=>m - (match yv with | .slice _ n _=>n | _=>0))
       case atStart=>exact⟨0,_,rfl,by omega,HX4,HG4⟩
       case round =>
        obtain⟨j,y,rfl,hj,HY,HB5⟩:=hrel;obtain⟨yA,yc,hyv,hoff⟩:=HY.out.off h34 HNE.out;rw[List.length_append,List.length_replicate,HML.out]at hyv;subst hyv
        by_cases hjm:mm+j < m
        ·have hjm':((mm+j:Nat):Int) < (m:Int):=by omega
         obtain⟨A6,c6,w6,hrun6,HY6,HB6⟩:=pad_more HY.out HB5.out HML.out (by omega)
         clear hoff
         go_wp2_with (at_builtin;refine Lib.wpList_append_run_sl _ rfl _ _ 39 rfl _ _ rfl rfl hrun6 ?_)
         go_roundw
         case rel=>exact⟨j+1,_,rfl,by omega,HY6,HB6⟩
         case measure=>simp;omega
        ·have hjm':¬((mm+j:Nat):Int) < (m:Int):=by omega
         obtain⟨v7,w7,hrun7,HO7,HB7⟩:=even_put (HO3.out.later HB5.out) (bthen HB3.out HB5.out) yA yc _ hoff HLT.out (by rw[List.length_append,List.length_replicate,HML.out])
         rw[evR_min (HLX.out ▸ HMM.out) (by have:=HLX.out;have:=HMM.out;omega),←HNX.out]at HO7
         clear hoff
         go_wp2_with (at_builtin;refine Lib.wpList_append_run_sl _ rfl _ _ 22 rfl _ _ rfl rfl hrun7 ?_)
         go_roundw
         case rel=>exact⟨k+1,_,rfl,by omega,by go_num,HO7,NC',HB7⟩
         case measure=>simp[intOf];omega
     ·have hck':(BV.chkR x != 0)=true:=by simpa using hck
      have HFIN:=Hi (HF.out (.slice none 0 0) w3 (fun b hb=>by rw[hb];exact HOK.out false (by rw[HBAD.out hck];simp)) HB3.out)
      generalize BV.chkR x=ck at *;clear hck HBAD;go_wp2_with fail
      go_ret3
      exact HFIN.out
    ·obtain rfl:k=n:=by omega
     have hall:a.take k=a:=List.take_of_length_le (by rw[HLA.out];exact Nat.le_refl _)
     rw[hall]at HO HC
     have h1:=HOK.out true (by
      rw[Bool.and_eq_true,Bool.and_eq_true,decide_eq_true_eq,List.all_eq_true];exact⟨⟨h30,rfl⟩,fun r hr=>by simpa using HC.out r hr⟩)
     have HFIN:=Hi (HT.out o wr h1 HO HB);clear hall HC h1;go_wp2_with fail
     go_ret3
     exact HFIN.out
 ·have hgt:((n:Int) > 30):=by omega
  have hgt':((30:Int) < (n:Int)):=by omega
  have HFIN:=Hi (HF.out (.slice none 0 0) W1 (fun b hb=>by rw[hb];exact HOK.out false (by rw[decide_eq_false h30];rfl)) HB1.out)
  clear HFW;go_enter Tryz.func8,Tryz.ntmps8
  go_wp2_with (rw[←HW1.out])
  go_ret3
  exact HFIN.out
theorem both_any(xs ys:List BV.V)(A B:Option Addr)(c d:Nat)(w:World)(ha:BV.RowAt w w.heap.size A xs)(hb:BV.RowAt w w.heap.size B ys)(hx:xs.length≤1000)(hy:ys.length≤1000) :
  Calls Tryz.prog 44 #[.slice A xs.length c,.slice B ys.length d] w (Made w (xs++ys)):=by
 obtain⟨v1,w1,hrun1,ho1,hg1,-⟩:=ownV_app 39 39 Tryz.underlying39 (OwnV.nil w w.heap.size) xs A c ha (by simp;omega) (Nat.le_refl _)
 rw[List.nil_append]at ho1;have hb1:Below w.heap.size w w1:=(Below.refl w.heap.size w).grown hg1 (Nat.le_refl _) (by simp[Value.ownBlock])
 obtain⟨v2,w2,hrun2,ho2,hg2,-⟩:=ownV_app 39 39 Tryz.underlying39 ho1 ys B d ((hb.later hb1)) (by omega) hb1.size
 have hb2:Below w.heap.size w w2:=hb1.grown hg2 hb1.size (fun k hk=>(OwnV.block ho1 hk).1)
 have HFIN:Hid (Made w (xs++ys) (.returned v2) w2):=Hi ⟨v2,rfl,Hi ho2,Hi hb2⟩;generalize xs.length=lx at *;generalize ys.length=ly at *;clear ho1 ho2 hg1 hg2 hb1 hb2 ha hb hx hy;go_enter Tryz.func44,Tryz.ntmps44
 go_wp2_with (at_builtin;first | (refine Lib.wpList_append_run_sl _ rfl _ _ 39 rfl _ _ rfl rfl hrun1 ?_) | (refine Lib.wpList_append_run_sl _ rfl _ _ 39 rfl _ _ rfl rfl hrun2 ?_))
 go_ret
 exact HFIN.out
end Go.Proofs.YtcicpjgnpcnnmaaGreatDoor
namespace Go.Proofs.YtcicpjgnpcnnmaaGreatDoor.BV
open Go.RowKit
def keys(rs:List R):List (List V):=rs.map R.xs
noncomputable def same (l m:List (List V)):Bool:=@decide (l=m) (Classical.propDecidable _)
theorem same_yes{l m:List (List V)}(h:l=m):same l m=true:=by
 unfold same
 simpa using h
theorem same_no{l m:List (List V)}(h:l≠m):same l m=false:=by
 unfold same
 simpa using h
theorem keys_len(rs:List R):(keys rs).length=rs.length:=by simp[keys]
theorem keys_snoc{ls ms:List R}{k:Nat}(hx:k < ls.length)(hy:k < ms.length)(h:(keys ls).take k=(keys ms).take k)(e:ls[k].xs=ms[k].xs):(keys ls).take (k+1)=(keys ms).take (k+1):=by
 rw[List.take_succ_eq_append_getElem (by rw[keys_len];exact hx),List.take_succ_eq_append_getElem (by rw[keys_len];exact hy),h]
 simp[keys,e]
theorem keys_ne{ls ms:List R}{k:Nat}(hx:k < ls.length)(hy:k < ms.length)(e:ls[k].xs≠ms[k].xs):keys ls≠keys ms:=fun h=>e (by
 have:=congrArg (fun l=>l[k]?) h
 simpa [keys,hx,hy]using this)
theorem keys_all{ls ms:List R}{n:Nat}(hx:n=ls.length)(hy:n=ms.length)(h:(keys ls).take n=(keys ms).take n):keys ls=keys ms:=by
 rw[List.take_of_length_le (by rw[keys_len];omega),List.take_of_length_le (by rw[keys_len];omega)]at h
 exact h
theorem sameRow_any(xs ys:List V)(A A':Option Addr)(c c':Nat)(w:World)(hr:RowAt w w.heap.size A xs)(hr':RowAt w w.heap.size A' ys)(hm:xs.length≤140737488355328) :
  Calls Tryz.prog 53 #[.slice A xs.length c,.slice A' ys.length c'] w fun e w'=>e = .returned (.bool (cmpR xs ys == 0))∧Below w.heap.size w w':=by
 have h26:=rcmpR_any xs ys A A' c c' w hr hr' (by omega)
 generalize cmpR xs ys=r at *;generalize xs.length=n at *;generalize ys.length=m at *;clear hr hr';go_enter Tryz.func53,Tryz.ntmps53
 go_wp2_with (go_at_call 78;refine h26.mono ?_;rintro e w1 ⟨rfl,hb1⟩)
 go_ret
 exact⟨rfl,hb1⟩
theorem sameRows_any(ls ms:List R)(A A':Option Addr)(c c':Nat)(w:World)(ha:RowsAt w w.heap.size A ls)(hb:RowsAt w w.heap.size A' ms)(hs:∀ r∈ls,r.xs.length≤140737488355328)(hm:ls.length≤140737488355328) :
  Calls Tryz.prog 26 #[.slice A ls.length c,.slice A' ms.length c'] w fun e w'=>e = .returned (.bool (same (keys ls) (keys ms)))∧Below w.heap.size w w':=by
 obtain⟨n,hn⟩:∃ n,n=ls.length:=⟨_,rfl⟩;obtain⟨m,hn'⟩:∃ m,m=ms.length:=⟨_,rfl⟩;have HN:=Hi hn;have HM:=Hi hn';rw[←hn]at hm ⊢;rw[←hn'];clear hn hn';have HA:=Hi ha;have HB:=Hi hb;have HS:=Hi hs;clear ha hb hs
 by_cases hnm:n=m
 ·subst hnm
  go_enter Tryz.func26,Tryz.ntmps26;go_wp2_with fail
  go_loopw [13] (fun i wr=>∃ k:Nat,k≤n∧i = .int .i64 k∧Below w.heap.size w wr∧Hid ((keys ls).take k=(keys ms).take k)) (fun i _=>n - (intOf i).toNat)
  case atStart=>exact⟨0,Nat.zero_le _,rfl,Below.refl _ _,rfl⟩
  case round =>
   obtain⟨k,hk,rfl,hb,heq⟩:=hrel
   by_cases hlt:k < n
   ·have hkx:k < ls.length:=by rw[←HN.out];exact hlt
    have hky:k < ms.length:=by rw[←HM.out];exact hlt
    obtain⟨ga,oa,hA,hal,hca⟩:=HA.out.1 (by omega)
    obtain⟨gb,ob,hB,hbl,hcb⟩:=HB.out.1 (by omega)
    subst hA hB;have d1:=(hb.cell (p:=⟨ga,_,none⟩) hal).trans (hca k hkx);have d2:=(hb.cell (p:=⟨gb,_,none⟩) hbl).trans (hcb k hky);have hcall:=sameRow_any ls[k].xs ms[k].xs ls[k].A ms[k].A ls[k].c ms[k].c wr.drew ((HA.out.2 ls[k] (List.getElem_mem hkx)).later hb.drew) ((HB.out.2 ms[k] (List.getElem_mem hky)).later hb.drew) (HS.out ls[k] (List.getElem_mem hkx));clear hca hcb;obtain⟨r,hr⟩:∃ r,r=(cmpR ls[k].xs ms[k].xs == 0):=⟨_,rfl⟩;rw[←hr]at hcall;have HT:Hid (r=true→(keys ls).take (k+1)=(keys ms).take (k+1)):=fun h=>keys_snoc hkx hky heq.out ((cmpR_ok.zero _ _).1 (by simpa using hr.symm.trans h))
    have HF:Hid (r=false→same (keys ls) (keys ms)=false):=fun h=>same_no (keys_ne hkx hky fun e=>by rw[(cmpR_ok.zero _ _).2 e]at hr;rw[hr]at h;cases h)
    clear hr;have HC:=Hi hcall;clear hcall;unfold R.val at d1 d2;generalize ls[k]=ra at *;generalize ms[k]=rb at *;cases r
    ·have HF2:=Hi (HF.out rfl)
     clear HF HT;go_wp2_with fail
     go_still_tail 8,(by kernel_rfl)
     change wpList _ _ _ _ _ wr.drew
     go_wp2_with fail;refine HC.out.mono ?_;rintro e w1 ⟨rfl,hb1⟩;go_wp2_with fail
     go_ret
     exact⟨by rw[HF2.out];rfl,bthen hb.drew hb1⟩
    ·have HT2:=Hi (HT.out rfl)
     clear HF HT;go_wp2_with fail
     go_still_tail 8,(by kernel_rfl)
     change wpList _ _ _ _ _ wr.drew
     go_wp2_with fail;refine HC.out.mono ?_;rintro e w1 ⟨rfl,hb1⟩;go_wp2_with fail
     go_roundw
     case rel=>exact⟨k+1,by omega,by go_num,bthen hb.drew hb1,HT2.out⟩
     case measure=>simp[intOf];omega
   ·obtain rfl:k=n:=by omega
    go_wp2_with fail
    go_ret
    exact⟨by rw[same_yes (keys_all HN.out HM.out heq.out)];rfl,hb⟩
 ·have hf:same (keys ls) (keys ms)=false:=same_no fun h=>hnm (by have:=congrArg List.length h;rw[keys_len,keys_len]at this;rw[HN.out,HM.out];exact this)
  have hne:(((n:Int) != (m:Int))=true):=by simp;omega
  have HF:=Hi hf;clear hf hnm;go_enter Tryz.func26,Tryz.ntmps26;go_wp2_with fail
  go_ret
  exact⟨by rw[HF.out];rfl,Below.refl _ _⟩
end Go.Proofs.YtcicpjgnpcnnmaaGreatDoor.BV
namespace Go.Proofs.YtcicpjgnpcnnmaaGreatDoor.BV
end Go.Proofs.YtcicpjgnpcnnmaaGreatDoor.BV
