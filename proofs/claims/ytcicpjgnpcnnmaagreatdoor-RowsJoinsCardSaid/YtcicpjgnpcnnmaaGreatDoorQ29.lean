import Derived.Test.YtcicpjgnpcnnmaaGreatDoorQ28
import Derived.Lib.AppendZeros
import Derived.RowKit
set_option maxRecDepth 100000
set_option maxHeartbeats 4000000
set_option linter.unusedSimpArgs false
set_option linter.unusedVariables false
namespace Go.Proofs.YtcicpjgnpcnnmaaGreatDoor
open Go.RowKit
def Made(w:World)(xs:List BV.V)(e:Ending)(w':World):Prop:=∃ v,e = .returned v∧Hid (OwnV w' w.heap.size v xs)∧Hid (Below w.heap.size w w')
def lenS(rs:List BV.R):Nat:=(rs.map fun r=>r.xs.length).sum
theorem lenS_snoc{rs:List BV.R}{k:Nat}(h:k < rs.length):lenS (rs.take (k+1))=lenS (rs.take k)+rs[k].xs.length:=by
 unfold lenS;rw[List.take_add_one,List.getElem?_eq_getElem h,Option.toList_some,List.map_append,List.sum_append]
 simp
theorem lenS_take(rs:List BV.R)(k:Nat):lenS (rs.take k)≤lenS rs:=by unfold lenS;rw[List.map_take];exact BV.sum_take_le _ _
theorem flatR_snoc{rs:List BV.R}{k:Nat}(h:k < rs.length):(rs.take (k+1)).flatMap BV.R.xs=(rs.take k).flatMap BV.R.xs++rs[k].xs:=by
 rw[List.take_add_one,List.getElem?_eq_getElem h,Option.toList_some,List.flatMap_append]
 simp
theorem lenR_flat(rs:List BV.R):(rs.flatMap BV.R.xs).length=lenS rs:=by
 unfold lenS;rw[List.length_flatMap]
theorem grow_nil(n:Nat)(hn:n≤1000000)(w:World):Calls Tryz.prog 83 #[.slice none 0 0,.int .i64 n] w (Made w []):=by
 obtain⟨i0,hi,hz0,hz1,hz2⟩:=infoVp;rcases Nat.eq_zero_or_pos n with h0 | h0
 ·subst h0
  go_enter Tryz.func83,Tryz.ntmps83;go_wp2_with fail
  go_ret
  exact⟨_,rfl,Hi (OwnV.nil _ _),Hi (Below.refl _ _)⟩
 ·have hrun:=Lib.run_append_nil_zeros (P:=Tryz.prog) w 39 3 39 26 i0 _ .i64 .i64 Tryz.underlying39 Tryz.underlying3 hi hz0 n h0 (by omega) (by omega) (by rw[hz2];omega)
  have hge:=grownCap_ge w n 0 26;have hle:=grownCap_le_maxLen w n 0 26 (by unfold maxLen;omega)
  generalize grownCap w n 0 26=cap at *
  have hsz:(Builtin.zeroCells (Value.cells (.agg #[.int .i64 0,.int .i64 0,.string ⟨#[]⟩])) n++Builtin.zeroCells (Value.cells (.agg #[.int .i64 0,.int .i64 0,.string ⟨#[]⟩])) (cap - n)).size=cap*3:=by
   rw[Array.size_append,size_zeroCells,size_zeroCells]
   show n*3+(cap - n)*3=cap*3
   omega
  obtain⟨cs,hcs⟩:∃ cs,cs=Builtin.zeroCells (Value.cells (.agg #[.int .i64 0,.int .i64 0,.string ⟨#[]⟩])) n++Builtin.zeroCells (Value.cells (.agg #[.int .i64 0,.int .i64 0,.string ⟨#[]⟩])) (cap - n):=⟨_,rfl⟩;rw[←hcs]at hrun hsz;have HFIN:Hid (Made w [] (.returned (.slice (some ⟨w.heap.size,0,none⟩) 0 cap)) (w.drew.alloc (.cells cs 26))):=Hi ⟨_,rfl,Hi ⟨rfl,.inr ⟨w.heap.size,cap,cs,rfl,Nat.le_refl _,heap_alloc_new w.drew _,Nat.zero_le _,hle,hsz,by simp[BV.flat]⟩⟩,Hi ((Below.refl w.heap.size w).drew.alloc (Nat.le_refl _) _)⟩
  have hpos:(n:Int) > 0:=by omega
  have hcap:0≤cap:=Nat.zero_le _;clear hi hz0 hz1 hz2 hsz hcs;go_enter Tryz.func83,Tryz.ntmps83
  go_wp2_with (at_builtin;refine Lib.wpList_append_run _ rfl _ _ 39 3 rfl _ _ rfl rfl _ _ hrun ?_)
  go_ret
  exact HFIN.out
theorem concat_any(rs:List BV.R)(A:Option Addr)(c:Nat)(w:World)(hr:BV.RowsAt w w.heap.size A rs)(hm:lenS rs≤1000000)(hl:rs.length≤1000000) :
  Calls Tryz.prog 59 #[.slice A rs.length c] w (Made w (rs.flatMap BV.R.xs)):=by
 obtain⟨n,hn⟩:∃ n,n=rs.length:=⟨_,rfl⟩;have HN:=Hi hn;rw[←hn]at hl ⊢;have HR:=Hi hr;have HF:Hid ((rs.take n).flatMap BV.R.xs=rs.flatMap BV.R.xs):=by rw[hn,List.take_length];exact rfl
 generalize rs.flatMap BV.R.xs=F at *;clear hn hr;go_enter Tryz.func59,Tryz.ntmps59;go_wp2_with fail
 go_loopw [11,3] (fun i s wr=>∃ k t:Nat,k≤n∧i = .int .i64 k∧s = .int .i64 t∧t≤1000000∧Hid (t=lenS (rs.take k))∧Below w.heap.size w wr) (fun i _ _=>n - (intOf i).toNat)
 case atStart=>exact⟨0,0,Nat.zero_le _,rfl,rfl,by omega,Hi (by simp[lenS]),Below.refl _ _⟩
 case round =>
  obtain⟨k,t,hk,rfl,rfl,htM,HT,hb⟩:=hrel
  by_cases hlt:k < n
  ·have hkx:k < rs.length:=by rw[←HN.out];exact hlt
   obtain⟨b,off,hA,hbl,hc⟩:=HR.out.1 (by omega)
   subst hA;have d1:=(hb.cell (p:=⟨b,_,none⟩) hbl).trans (hc k hkx)
   have HE:Hid (t+rs[k].xs.length=lenS (rs.take (k+1))):=by
    have h1:=lenS_snoc hkx;have h2:=HT.out
    show _=_
    omega
   have hle:t+rs[k].xs.length≤1000000:=by
    have h1:=lenS_take rs (k+1);have h2:=HE.out
    omega
   clear hc;unfold BV.R.val at d1;generalize rs[k].xs.length=l at *;generalize rs[k].A=A2 at *;generalize rs[k].c=c2 at *;go_wp2_with fail
   go_roundw
   case rel=>exact⟨k+1,t+l,by omega,by go_num,by go_num,hle,HE,hb⟩
   case measure=>simp[intOf];omega
  ·obtain rfl:k=n:=by omega
   clear HT;go_wp2_with fail;refine(grow_nil t htM wr).mono ?_;rintro e w1 ⟨v1,rfl,HO1,HB1⟩;have HB1':Hid (Below w.heap.size w w1):=Hi (hb.trans (HB1.out.mono hb.size));have HO1':Hid (OwnV w1 w.heap.size v1 []):=Hi (World.ownsRow.mono HO1.out hb.size);clear HO1 HB1 hb;go_wp2_with fail
   go_loopw [27,6] (fun i s wq=>∃ j:Nat,j≤k∧i = .int .i64 j∧Hid (OwnV wq w.heap.size s ((rs.take j).flatMap BV.R.xs))∧Hid (Below w.heap.size w wq)) (fun i _ _=>k - (intOf i).toNat)
   case atStart=>exact⟨0,Nat.zero_le _,rfl,HO1',HB1'⟩
   case round =>
    obtain⟨j,hj,rfl,HO,HB⟩:=hrel
    by_cases hlt:j < k
    ·have hjx:j < rs.length:=by rw[←HN.out];exact hlt
     obtain⟨b,off,hA,hbl,hc⟩:=HR.out.1 (by omega)
     subst hA;have d1:=(HB.out.cell (p:=⟨b,_,none⟩) hbl).trans (hc j hjx);have hrow:=(HR.out.2 rs[j] (List.getElem_mem hjx)).later HB.out
     have hsum:((rs.take j).flatMap BV.R.xs).length+rs[j].xs.length≤10000000:=by
      have h1:=lenS_snoc hjx;have h2:=lenS_take rs (j+1);have h3:=lenR_flat (rs.take j)
      omega
     obtain⟨v',w',hrun,ho,hg,-⟩:=ownV_app 39 39 Tryz.underlying39 HO.out rs[j].xs rs[j].A rs[j].c hrow hsum HB.out.size;rw[←flatR_snoc hjx]at ho;have HO':=Hi ho;have HB':=Hi (ownV_below HB.out HO.out hg HB.out.size);clear hc hrow ho hg hsum;unfold BV.R.val at d1;generalize rs[j].xs.length=l at *;generalize rs[j].A=A2 at *;generalize rs[j].c=c2 at *
     go_wp2_with (at_builtin;refine Lib.wpList_append_run_sl _ rfl _ _ 39 rfl _ _ rfl rfl hrun ?_)
     go_roundw
     case rel=>exact⟨j+1,by omega,by go_num,HO',HB'⟩
     case measure=>simp[intOf];omega
    ·obtain rfl:j=k:=by omega
     rw[HF.out]at HO;go_wp2_with fail
     go_ret
     exact⟨_,rfl,HO,HB⟩
theorem joined_any(rs:List BV.R)(A:Option Addr)(c:Nat)(w:World)(hr:BV.RowsAt w w.heap.size A rs)(hm:lenS rs≤1000000)(hl:rs.length≤1000000) :
  Calls Tryz.prog 33 #[.slice A rs.length c] w (Made w (rs.flatMap BV.R.xs)):=by
 have HC:=Hi (concat_any rs A c w hr hm hl);clear hr hm hl;generalize rs.flatMap BV.R.xs=F at *;generalize rs.length=n at *;go_enter Tryz.func33,Tryz.ntmps33;go_wp2_with fail;refine(HC.out).mono ?_;rintro e w1 ⟨v,rfl,HO,HB⟩;go_wp2_with fail
 go_ret
 exact⟨_,rfl,HO,HB⟩
theorem made_zV(n:Nat)(h:n≤2000)(w:World):(Instr.makeSlice 39 (.int .i64 (n:Int)) (.int .i64 (n:Int))).run Tryz.prog w = .ok (.slice (some ⟨w.heap.size,0,none⟩) n n) (w.alloc (.cells (BV.flat (List.replicate n zW)).toArray 26)):=by
 obtain⟨i0,hi,hz0,hz1,hz2⟩:=infoVp;have:=run_make (P:=Tryz.prog) w 39 26 i0 _ Tryz.underlying39 hi hz0 .i64 .i64 n n (by omega) (by omega) (by rw[hz2];omega) (by omega)
 rw[this,Int.toNat_natCast,hz1,LG.made3]
 rfl
theorem nulls_any(n:Nat)(hn:n≤64)(w:World):Calls Tryz.prog 42 #[.int .i64 n] w (Made w (List.replicate n zW)):=by
 have hmk:=made_zV n (by omega) w
 have h1:min (n:Int) 64=n:=by omega
 have h2:max 0 (n:Int)=n:=by omega
 have HFIN:Hid (Made w (List.replicate n zW) (.returned (.slice (some ⟨w.heap.size,0,none⟩) n n)) (w.alloc (.cells (BV.flat (List.replicate n zW)).toArray 26))):=Hi ⟨_,rfl,Hi ⟨by rw[BV.flat_len],.inr ⟨w.heap.size,n,_,by rw[List.length_replicate],Nat.le_refl _,heap_alloc_new w _,by rw[List.length_replicate];exact Nat.le_refl _,by unfold maxLen;omega,by rw[List.size_toArray,BV.flat_len,List.length_replicate],by rw[List.length_replicate];simp only[List.take_of_length_le (show(BV.flat (List.replicate n zW)).length≤n*3 by rw[BV.flat_len,List.length_replicate];exact Nat.le_refl _)]⟩⟩,Hi ((Below.refl w.heap.size w).alloc (Nat.le_refl _) _)⟩
 generalize (BV.flat (List.replicate n zW)).toArray=cs at *;go_enter Tryz.func42,Tryz.ntmps42;go_wp2_with fail
 go_ret
 exact HFIN.out
def sidesB(b1 b2 b3 b4 b5:Bool):Bool×Bool×Bool:=if b1 || b2 then (false,false,true)else if b3 then (true,false,true)else if b4 then (false,true,true)else if b5 then (true,true,true)else (false,false,false)
theorem sides_any(s:ByteArray)(b1 b2 b3 b4 b5:Bool)(h1:(s.toList == [105,110,110,101,114])=b1)(h2:(s.toList == [99,114,111,115,115])=b2)(h3:(s.toList == [108,101,102,116])=b3)(h4:(s.toList == [114,105,103,104,116])=b4)(h5:(s.toList == [102,117,108,108])=b5)(w:World) :
  Calls Tryz.prog 40 #[.string s] w fun e w'=>e = .returned (.tuple #[.bool (sidesB b1 b2 b3 b4 b5).1,.bool (sidesB b1 b2 b3 b4 b5).2.1,.bool (sidesB b1 b2 b3 b4 b5).2.2])∧Below w.heap.size w w':=by
 cases b1 <;> cases b2 <;> cases b3 <;> cases b4 <;> cases b5 <;> (go_enter Tryz.func40,Tryz.ntmps40;go_wp2_with fail;go_ret3;exact⟨rfl,Below.refl _ _⟩)
theorem always_any(w:World):Calls Tryz.prog 41 #[] w fun e w'=>e = .returned (.agg #[.string ⟨#[108,105,116]⟩,.int .i64 1,.int .i64 1,.string ⟨#[]⟩,.string ⟨#[]⟩,.string ⟨#[]⟩,.slice none 0 0])∧Below w.heap.size w w':=by
 obtain⟨W1,W,hW1,hW,p1,p2,hz,hb1,hb2⟩:=made7 w (.string ⟨#[108,105,116]⟩) (.int .i64 1) (.int .i64 1) (.string ⟨#[]⟩) (.string ⟨#[]⟩) (.string ⟨#[]⟩) (.slice none 0 0);obtain⟨a0,a1,a2,a3,a4,a5,a6⟩:=p1.cells;obtain⟨f0,f1,f2,f3,f4,f5,f6⟩:=p1.free;obtain⟨k0,k1,k2,k3,k4,k5,k6⟩:=p2.cells;have HW1:=Hi hW1;have HW:=Hi hW;have HB:=Hi hb2;clear hW1 hW p1 p2 hb1 hb2 hz;go_enter Tryz.func41,Tryz.ntmps41
 go_wp2_with (first | (rw[←HW.out]) | (rw[←HW1.out]))
 exact bodyPost_ret (v:= .agg #[.string ⟨#[108,105,116]⟩,.int .i64 1,.int .i64 1,.string ⟨#[]⟩,.string ⟨#[]⟩,.string ⟨#[]⟩,.slice none 0 0]) (by simp[results,Tryz.results41,go_sem,k0,k1,k2,k3,k4,k5,k6]) rfl ⟨rfl,HB.out⟩
theorem infoR:(Tryz.prog.info? 39).map (fun i=>(i.zero,i.size,i.bytes))=some (some (.slice none 0 0),1,24):=by kernel_rfl
theorem infoRp:∃ i,Tryz.prog.info? 39=some i∧i.zero=some (.slice none 0 0)∧i.size=1∧i.bytes=24:=by
 cases hq:Tryz.prog.info? 39 with
 | none=>have h:=infoR;rw[hq]at h;cases h
 | some i =>
  have h:=infoR;rw[hq]at h;simp only[Option.map_some,Option.some.injEq,Prod.mk.injEq]at h;exact⟨i,rfl,h.1,h.2.1,h.2.2⟩
def RowOff(w:World)(B:Nat)(g:Option Nat)(A:Option Addr)(c:Nat)(xs:List BV.V):Prop:=(0 < xs.length→∃ b off,A=some ⟨b,off,none⟩∧B≤b∧g≠some b∧b < w.heap.size∧∀ j (h:j < xs.length),BV.CellsAt w b (off+j*3) xs[j])∧xs.length≤c
theorem cells_block{w w':World}{b o:Nat}{v:BV.V}(h:BV.CellsAt w b o v)(hb:w'.heap[b]? = w.heap[b]?):BV.CellsAt w' b o v:=by
 have e:∀ k,w'.cell? ⟨b,k,none⟩=w.cell? ⟨b,k,none⟩:=fun k=>by simp only[World.cell?,hb]
 exact⟨(e _).trans h.1,(e _).trans h.2.1,(e _).trans h.2.2⟩
theorem RowOff.row{w:World}{B:Nat}{g:Option Nat}{A:Option Addr}{c:Nat}{xs:List BV.V}(h:RowOff w B g A c xs):BV.RowAt w w.heap.size A xs:=fun h0=>by
 obtain⟨b,off,hA,-,-,hlt,hc⟩:=h.1 h0;exact⟨b,off,hA,hlt,hc⟩
theorem RowOff.same{w w':World}{B:Nat}{g:Option Nat}{A:Option Addr}{c:Nat}{xs:List BV.V}(h:RowOff w B g A c xs)(hs:w.heap.size≤w'.heap.size)(hb:∀ k,B≤k→k < w.heap.size→g≠some k→w'.heap[k]? = w.heap[k]?):RowOff w' B g A c xs:=⟨fun h0=>by
 obtain⟨b,off,hA,hB,hg,hlt,hc⟩:=h.1 h0;exact⟨b,off,hA,hB,hg,Nat.lt_of_lt_of_le hlt hs,fun j hj=>cells_block (hc j hj) (hb b hB hlt hg)⟩,h.2⟩
theorem OwnV.off{w:World}{B:Nat}{v:Value}{xs:List BV.V}(h:OwnV w B v xs){B':Nat}(hB:B'≤B){g:Option Nat}(hg:∀ k,g=some k→k < B):∃ A c,v = .slice A xs.length c∧RowOff w B' g A c xs:=by
 rcases h.2 with ⟨hv,h0⟩ | ⟨q,cap,cur,hv,hbq,hq,hn,hm,_⟩
 ·exact⟨none,0,by rw[hv,h0],fun h=>by omega,by omega⟩
 ·refine⟨_,cap,hv,fun h0 => ?_,hn⟩
  have hr:=BV.RowAt.of_flat (h.cells (g:=q) (by rw[hv];rfl)) (Array.getElem?_eq_some_iff.1 hq).1
  obtain⟨b,off,hA,hlt,hc⟩:=hr h0
  injection hA with hA
  injection hA with hA1 hA2 hA3
  subst hA1;exact⟨q,off,by rw[hA2],by omega,fun e=>by have:=hg q e;omega,hlt,hc⟩
def OwnR(w:World)(B:Nat)(v:Value)(l:List (List BV.V)):Prop:=∃ rs:List BV.R,rs.map BV.R.xs=l∧w.ownsRow B 39 1 v rs.length (rs.map BV.R.val)∧∀ r∈rs,RowOff w B v.ownBlock r.A r.c r.xs
theorem OwnR.nil(w:World)(B:Nat):OwnR w B (.slice none 0 0) []:=⟨[],rfl,World.ownsRow_nil w B 39 1,by simp⟩
theorem OwnR.shape{w:World}{B:Nat}{v:Value}{l:List (List BV.V)}(h:OwnR w B v l):∃ A c,v = .slice A l.length c∧l.length≤c:=by
 obtain⟨rs,rfl,ho,-⟩:=h;rw[List.length_map];rcases ho.2 with ⟨hv,h0⟩ | ⟨g,cap,cur,hv,_,hg,hn,_⟩
 ·exact⟨none,0,by rw[hv,h0],by omega⟩
 ·exact⟨_,cap,hv,hn⟩
theorem OwnR.lt{w:World}{B:Nat}{v:Value}{l:List (List BV.V)}(h:OwnR w B v l):∀ k,v.ownBlock=some k→B≤k∧k < w.heap.size:=by
 obtain⟨rs,-,ho,-⟩:=h;exact ho.lt
theorem OwnR.same{w w':World}{B:Nat}{v:Value}{l:List (List BV.V)}(h:OwnR w B v l)(hs:w.heap.size≤w'.heap.size)(hb:∀ k,B≤k→k < w.heap.size→w'.heap[k]? = w.heap[k]?):OwnR w' B v l:=by
 obtain⟨rs,hl,ho,hr⟩:=h;refine⟨rs,hl,⟨ho.1,?_⟩,fun r hr'=>(hr r hr').same hs fun k h1 h2 _=>hb k h1 h2⟩
 rcases ho.2 with hn | ⟨g,cap,cur,hv,hB,hg,rest⟩
 ·exact .inl hn
 ·exact .inr ⟨g,cap,cur,hv,hB,(hb g hB (Array.getElem?_eq_some_iff.1 hg).1).trans hg,rest⟩
theorem OwnR.later{w w':World}{B:Nat}{v:Value}{l:List (List BV.V)}(h:OwnR w B v l)(hb:Below w.heap.size w w'):OwnR w' B v l:=h.same hb.size fun k _ hk=>hb.block k hk
theorem OwnR.rows{w:World}{B:Nat}{v:Value}{l:List (List BV.V)}(h:OwnR w B v l):∃ (rs:List BV.R)(A:Option Addr)(c:Nat),v = .slice A rs.length c∧rs.map BV.R.xs=l∧rs.length≤c∧BV.RowsAt w w.heap.size A rs:=by
 obtain⟨rs,hl,ho,hr⟩:=h;rcases ho.2 with ⟨hv,h0⟩ | ⟨g,cap,cur,hv,_,hg,hn,_⟩
 ·exact⟨rs,none,0,by rw[hv,h0],hl,by omega,fun h=>by omega,fun r hr'=>(hr r hr').row⟩
 ·refine⟨rs,_,cap,hv,hl,hn,fun _=>⟨g,0,rfl,(Array.getElem?_eq_some_iff.1 hg).1,fun j hj => ?_⟩,fun r hr'=>(hr r hr').row⟩
  have:=ho.cells (g:=g) (by rw[hv];rfl) j rs[j].val (by simp[hj])
  rwa [WideShapes.add_plain]at this
theorem OwnR.rowsC{w:World}{B:Nat}{v:Value}{l:List (List BV.V)}(h:OwnR w B v l):∃ (rs:List BV.R)(A:Option Addr)(c:Nat),v = .slice A rs.length c∧rs.map BV.R.xs=l∧rs.length≤c∧BV.RowsAt w w.heap.size A rs∧∀ r∈rs,r.xs.length≤r.c:=by
 obtain⟨rs,hl,ho,hr⟩:=h;rcases ho.2 with ⟨hv,h0⟩ | ⟨g,cap,cur,hv,_,hg,hn,_⟩
 ·exact⟨rs,none,0,by rw[hv,h0],hl,by omega,⟨fun h=>by omega,fun r hr'=>(hr r hr').row⟩,fun r hr'=>(hr r hr').2⟩
 ·refine⟨rs,_,cap,hv,hl,hn,⟨fun _=>⟨g,0,rfl,(Array.getElem?_eq_some_iff.1 hg).1,fun j hj => ?_⟩,fun r hr'=>(hr r hr').row⟩,fun r hr'=>(hr r hr').2⟩
  have:=ho.cells (g:=g) (by rw[hv];rfl) j rs[j].val (by simp[hj])
  rwa [WideShapes.add_plain]at this
theorem ownR_app{w:World}{B:Nat}{v:Value}{l:List (List BV.V)}(h:OwnR w B v l)(A:Option Addr)(c:Nat)(xs:List BV.V)(hx:RowOff w B v.ownBlock A c xs)(hB:B≤w.heap.size)(hm:l.length≤1000000) :
  ∃ v' w',(Builtin.append_ #[22,22] 22 #[v,.slice (some ⟨w.heap.size,0,none⟩) 1 1]).run Tryz.prog (w.alloc (.cells #[.slice A xs.length c] 39)) = .ok v' w'∧OwnR w' B v' (l ++ [xs])∧(w.alloc (.cells #[.slice A xs.length c] 39)).grownBy w' v.ownBlock:=by
 obtain⟨i0,hi,hz0,hz1,hz2⟩:=infoRp;obtain⟨rs,rfl,ho,hr⟩:=h;rw[List.length_map]at hm;obtain⟨v',w',h1,h2,h3,-,h5⟩:=run_append_own_at (P:=Tryz.prog) (w.alloc (.cells #[.slice A xs.length c] 39)) B 22 22 39 i0 (.slice none 0 0) 1 24 Tryz.underlying22 hi hz0 hz1 hz2 rfl (by decide) v rs.length (rs.map BV.R.val) (ho.alloc _) ⟨w.heap.size,0,none⟩ 1 1 [.slice A xs.length c] rfl (World.news_of_block (heap_alloc_new w _)) (by intro u hu;simp at hu;subst hu;rfl) (by unfold maxLen;omega) (by omega) (by simp;omega)
 refine⟨v',w',h1,⟨rs ++ [⟨A,c,xs⟩],by simp,?_,?_⟩,h3⟩
 ·rw[List.length_append,List.map_append]
  exact h2
 ·have hal:∀ {A' c' xs'},RowOff w B v.ownBlock A' c' xs'→RowOff w' B v'.ownBlock A' c' xs':=by
   intro A' c' xs' hx'
   have s1:RowOff (w.alloc (.cells #[.slice A xs.length c] 39)) B v.ownBlock A' c' xs':=hx'.same (by simp) fun k _ hk _=>by
    exact((Below.refl w.heap.size w).alloc (Nat.le_refl _) _).block k hk
   have hsz:(w.alloc (.cells #[.slice A xs.length c] 39)).heap.size=w.heap.size+1:=by simp
   have s2:RowOff w' B v.ownBlock A' c' xs':=s1.same h3.size fun k _ hk hne=>h3.block k hk (fun e=>hne e.symm)
   refine⟨fun h0 => ?_,hx'.2⟩
   obtain⟨b,off,hA,hBb,hne,hlt,hc⟩:=s2.1 h0;obtain⟨b',off',hA',-,-,hlt',-⟩:=hx'.1 h0;have hbb:b=b':=congrArg Addr.block (Option.some.inj (hA.symm.trans hA'));refine⟨b,off,hA,hBb,?_,hlt,hc⟩;rcases h5 with e | e
   ·rw[e];exact hne
   ·rw[e,hsz];intro e2;injection e2 with e2;omega
  intro r hr';rcases List.mem_append.1 hr' with h | h
  ·exact hal (hr r h)
  ·rw[List.mem_singleton]at h
   subst h;exact hal hx
theorem ownR_below{w0 w w':World}{B B0:Nat}{v:Value}{l:List (List BV.V)}{o:Obj}(hb:Below B0 w0 w)(h:OwnR w B v l)(hg:(w.alloc o).grownBy w' v.ownBlock)(hB:B0≤B)(hw:B0≤w.heap.size):Below B0 w0 w' :=
 (hb.alloc hw o).grown hg (by simp;omega) (fun k hk=>by have:=(h.lt k hk).1;omega)
def Flags(w:World)(q:Nat)(bs:List Bool):Prop:=w.heap[q]? = some (.cells (bs.map Value.bool).toArray 4 (0,0))
theorem Flags.lt{w:World}{q:Nat}{bs:List Bool}(h:Flags w q bs):q < w.heap.size:=(Array.getElem?_eq_some_iff.1 h).1
theorem Flags.cell{w:World}{q:Nat}{bs:List Bool}(h:Flags w q bs)(j:Nat)(hj:j < bs.length):w.cell? ⟨q,j,none⟩=some (.bool bs[j]):=by
 rw[Lib.cell_of_heap h]
 simp[hj]
theorem Flags.free{w:World}{q:Nat}{bs:List Bool}(h:Flags w q bs)(j:Nat):w.frozen? ⟨q,j,none⟩=false:=Lib.frozen_of_heap h j
theorem Flags.same{w w':World}{q:Nat}{bs:List Bool}(h:Flags w q bs)(hb:w'.heap[q]? = w.heap[q]?):Flags w' q bs:=hb.trans h
theorem Flags.set{w:World}{q:Nat}{bs:List Bool}(h:Flags w q bs)(j:Nat)(b:Bool):Flags (w.setCell ⟨q,j,none⟩ (.bool b)) q (bs.set j b):=by
 unfold Flags;rw[Lib.heap_setCell_same h]
 simp[List.map_set]
theorem infoB:(Tryz.prog.info? 4).map (fun i=>(i.zero,i.size,i.bytes))=some (some (.bool false),1,1):=by kernel_rfl
theorem made_flags(n:Nat)(h:n≤1000000)(w:World):(Instr.makeSlice 75 (.int .i64 (n:Int)) (.int .i64 (n:Int))).run Tryz.prog w = .ok (.slice (some ⟨w.heap.size,0,none⟩) n n) (w.alloc (.cells ((List.replicate n false).map Value.bool).toArray 4)):=by
 obtain⟨i0,hi,hz0,hz1,hz2⟩:∃ i,Tryz.prog.info? 4=some i∧i.zero=some (.bool false)∧i.size=1∧i.bytes=1:=by
  cases hq:Tryz.prog.info? 4 with
  | none=>have h:=infoB;rw[hq]at h;cases h
  | some i =>
   have h:=infoB;rw[hq]at h;simp only[Option.map_some,Option.some.injEq,Prod.mk.injEq]at h;exact⟨i,rfl,h.1,h.2.1,h.2.2⟩
 have:=run_make (P:=Tryz.prog) w 75 4 i0 _ Tryz.underlying75 hi hz0 .i64 .i64 n n (by omega) (by omega) (by rw[hz2];omega) (by omega)
 rw[this,Int.toNat_natCast,hz1]
 have e:madeCells (Value.bool false).cells (n*1)=((List.replicate n false).map Value.bool).toArray:=by
  apply Array.ext
  ·simp[madeCells,Value.cells]
  ·intro i h1 h2
   have hz:(Value.bool false).cells=#[Value.bool false]:=rfl
   simp[madeCells,hz,Nat.mod_one]
 rw[e]
end Go.Proofs.YtcicpjgnpcnnmaaGreatDoor
namespace Go.Proofs.YtcicpjgnpcnnmaaGreatDoor
def firstE:List Int→Int
 | []=>0
 | a::l=>if a=0 then firstE l else a
theorem firstE_zero{l:List Int}:firstE l=0↔∀ a∈l,a=0:=by
 induction l with
 | nil=>simp[firstE]
 | cons a l ih =>
  unfold firstE
  by_cases h:a=0
  ·simp[h,ih]
  ·simp[h]
theorem firstE_app(l m:List Int):firstE (l++m)=if firstE l=0 then firstE m else firstE l:=by
 induction l with
 | nil=>simp[firstE]
 | cons a l ih =>
  simp only[List.cons_append,firstE]
  by_cases h:a=0
  ·simp[h,ih]
  ·simp[h]
section
variable {α : Type}
def pairsP(a b:List (List α)):List (List α):=a.flatMap fun x=>b.map fun y=>x++y
def errsP(t:List α→Int×Bool)(l:List (List α)):Int:=firstE (l.map fun r=>(t r).1)
def hitP(t:List α→Int×Bool)(x y:List α):Bool:=(t (x++y)).2
def jOne(t:List α→Int×Bool)(lf:Bool)(b:List (List α))(nb:List α)(x:List α):List (List α) :=
 (b.filter (hitP t x)).map (x ++ ·)++if lf && b.all (fun y => !hitP t x y)then [x++nb]else []
def jLeft(t:List α→Int×Bool)(lf:Bool)(a b:List (List α))(nb:List α):List (List α):=a.flatMap (jOne t lf b nb)
def jRight(t:List α→Int×Bool)(a b:List (List α))(na:List α):List (List α):=(b.filter fun y=>a.all fun x => !hitP t x y).map (na ++ ·)
def jRows(t:List α→Int×Bool)(lf rt:Bool)(a b:List (List α))(na nb:List α):List (List α):=jLeft t lf a b nb++if rt then jRight t a b na else []
def filtP(t:List α→Int×Bool)(l:List (List α)):List (List α):=l.filter fun r=>(t r).2
theorem pairs_len(a b:List (List α)):(pairsP a b).length=a.length*b.length:=by
 unfold pairsP
 induction a with
 | nil=>simp
 | cons x l ih=>rw[List.flatMap_cons,List.length_append,ih,List.length_map,List.length_cons,Nat.succ_mul,Nat.add_comm]
theorem inner_filter(t:List α→Int×Bool)(a b:List (List α))(nb:List α):jLeft t false a b nb=filtP t (pairsP a b):=by
 unfold jLeft filtP pairsP;rw[List.filter_flatMap]
 congr 1
 funext x
 unfold jOne;simp only[Bool.false_and,Bool.false_eq_true,if_false,List.append_nil,List.filter_map]
 rfl
theorem cross_all(a b:List (List α))(nb:List α):jLeft (fun _=>(0,true)) false a b nb=pairsP a b:=by
 rw[inner_filter];exact List.filter_eq_self.2 fun _ _=>rfl
theorem cross_none(a b:List (List α)):errsP (fun _=>(0,true)) (pairsP a b)=0:=by
 unfold errsP;rw[firstE_zero];intro x hx;obtain⟨_,_,rfl⟩:=List.mem_map.1 hx
 rfl
theorem mem_pairs{a b:List (List α)}{r:List α}:r∈pairsP a b↔∃ x∈a,∃ y∈b,r=x++y:=by
 unfold pairsP;simp only[List.mem_flatMap,List.mem_map]
 constructor
 ·rintro⟨x,hx,y,hy,rfl⟩;exact⟨x,hx,y,hy,rfl⟩
 ·rintro⟨x,hx,y,hy,rfl⟩;exact⟨x,hx,y,hy,rfl⟩
theorem errs_zero{t:List α→Int×Bool}{l:List (List α)}:errsP t l=0↔∀ r∈l,(t r).1=0:=by
 unfold errsP;rw[firstE_zero]
 simp
theorem flat_one{β γ:Type}(l:List β)(p:β→Bool)(f:β→γ):(l.flatMap fun x=>if p x then [f x]else [])=(l.filter p).map f:=by
 induction l with
 | nil=>simp
 | cons a l ih =>
  rw[List.flatMap_cons,ih,List.filter_cons]
  by_cases h:p a=true
  ·simp[h]
  ·simp[h]
theorem jrows_wide{t:List α→Int×Bool}{lf rt:Bool}{a b:List (List α)}{na nb:List α}{wa wb:Nat}(ha:∀ x∈a,x.length=wa)(hb:∀ y∈b,y.length=wb)(hna:na.length=wa)(hnb:nb.length=wb):∀ r∈jRows t lf rt a b na nb,r.length=wa+wb:=by
 intro r hr;unfold jRows at hr;rcases List.mem_append.1 hr with h | h
 ·obtain⟨x,hx,h⟩:=List.mem_flatMap.1 h
  unfold jOne at h;rcases List.mem_append.1 h with h | h
  ·obtain⟨y,hy,rfl⟩:=List.mem_map.1 h
   rw[List.length_append,ha x hx,hb y (List.mem_filter.1 hy).1]
  ·split at h
   ·rw[List.mem_singleton]at h
    subst h;rw[List.length_append,ha x hx,hnb]
   ·simp at h
 ·split at h
  ·obtain⟨y,hy,rfl⟩:=List.mem_map.1 h
   rw[List.length_append,hna,hb y (List.mem_filter.1 hy).1]
  ·simp at h
def fl0(t:List α→Int×Bool)(pre b:List (List α)):List Bool:=b.map fun y=>pre.any fun z=>hitP t z y
def flP(t:List α→Int×Bool)(pre:List (List α))(x:List α)(j:Nat)(b:List (List α)):List Bool:=b.mapIdx fun i y=>(pre.any fun z=>hitP t z y) || (decide (i < j) && hitP t x y)
theorem fl_len(t:List α→Int×Bool)(pre:List (List α))(x:List α)(j:Nat)(b:List (List α)):(flP t pre x j b).length=b.length:=by simp[flP]
theorem fl0_len(t:List α→Int×Bool)(pre b:List (List α)):(fl0 t pre b).length=b.length:=by simp[fl0]
theorem fl_start(t:List α→Int×Bool)(pre:List (List α))(x:List α)(b:List (List α)):flP t pre x 0 b=fl0 t pre b:=by
 apply List.ext_getElem
 ·simp[flP,fl0]
 ·intro i h1 h2
  simp[flP,fl0]
theorem fl_end(t:List α→Int×Bool)(pre:List (List α))(x:List α)(b:List (List α)):flP t pre x b.length b=fl0 t (pre ++ [x]) b:=by
 apply List.ext_getElem
 ·simp[flP,fl0]
 ·intro i h1 h2
  have hi:i < b.length:=by simpa [flP]using h1
  simp[flP,fl0,hi]
theorem fl_yes{t:List α→Int×Bool}{pre:List (List α)}{x:List α}{j:Nat}{b:List (List α)}(hj:j < b.length)(h:hitP t x b[j]=true):flP t pre x (j+1) b=(flP t pre x j b).set j true:=by
 apply List.ext_getElem
 ·simp[flP]
 ·intro i h1 h2
  rw[List.getElem_set]
  by_cases hij:j=i
  ·subst hij
   simp[flP,h]
  ·rw[if_neg hij]
   have e:decide (i < j+1)=decide (i < j):=by
    have:i < j+1↔i < j:=by omega
    simp[this]
   simp[flP,e]
theorem fl_no{t:List α→Int×Bool}{pre:List (List α)}{x:List α}{j:Nat}{b:List (List α)}(hj:j < b.length)(h:hitP t x b[j]=false):flP t pre x (j+1) b=flP t pre x j b:=by
 apply List.ext_getElem
 ·simp[flP]
 ·intro i h1 h2
  by_cases hij:i=j
  ·subst hij
   simp[flP,h]
  ·have e:decide (i < j+1)=decide (i < j):=by
    have:i < j+1↔i < j:=by omega
    simp[this]
   simp[flP,e]
theorem take_next{β:Type}{l:List β}{j:Nat}(hj:j < l.length):l.take (j+1)=l.take j ++ [l[j]]:=by
 rw[List.take_add_one,List.getElem?_eq_getElem hj]
 rfl
def goP(t:List α→Int×Bool)(x:List α)(b:List (List α))(j:Nat):List (List α):=((b.take j).filter (hitP t x)).map (x ++ ·)
theorem go_yes{t:List α→Int×Bool}{x:List α}{b:List (List α)}{j:Nat}(hj:j < b.length)(h:hitP t x b[j]=true):goP t x b (j+1)=goP t x b j ++ [x++b[j]]:=by
 unfold goP;rw[take_next hj,List.filter_append,List.map_append]
 simp[h]
theorem go_no{t:List α→Int×Bool}{x:List α}{b:List (List α)}{j:Nat}(hj:j < b.length)(h:hitP t x b[j]=false):goP t x b (j+1)=goP t x b j:=by
 unfold goP;rw[take_next hj,List.filter_append,List.map_append]
 simp[h]
def alP(t:List α→Int×Bool)(x:List α)(b:List (List α))(j:Nat):Bool:=(b.take j).all fun y => !hitP t x y
theorem al_yes{t:List α→Int×Bool}{x:List α}{b:List (List α)}{j:Nat}(hj:j < b.length)(h:hitP t x b[j]=true):alP t x b (j+1)=false:=by
 unfold alP;rw[take_next hj,List.all_append]
 simp[h]
theorem al_no{t:List α→Int×Bool}{x:List α}{b:List (List α)}{j:Nat}(hj:j < b.length)(h:hitP t x b[j]=false):alP t x b (j+1)=alP t x b j:=by
 unfold alP;rw[take_next hj,List.all_append]
 simp[h]
theorem left_next(t:List α→Int×Bool)(lf:Bool){a:List (List α)}(b:List (List α))(nb:List α){k:Nat}(hk:k < a.length):jLeft t lf (a.take (k+1)) b nb=(jLeft t lf (a.take k) b nb++goP t a[k] b b.length)++if lf && alP t a[k] b b.length then [a[k]++nb]else []:=by
 unfold jLeft;rw[take_next hk,List.flatMap_append,List.append_assoc]
 congr 1
 simp[jOne,goP,alP]
theorem pairs_next{a:List (List α)}(b:List (List α)){k:Nat}(hk:k < a.length):pairsP (a.take (k+1)) b=pairsP (a.take k) b++b.map fun y=>a[k]++y:=by
 unfold pairsP;rw[take_next hk,List.flatMap_append]
 simp
theorem errs_app(t:List α→Int×Bool)(l m:List (List α)):errsP t (l++m)=if errsP t l=0 then errsP t m else errsP t l:=by
 unfold errsP;rw[List.map_append,firstE_app]
theorem errs_at{t:List α→Int×Bool}{a b:List (List α)}{k j:Nat}(hk:k < a.length)(hj:j < b.length)(h1:∀ r∈pairsP (a.take k) b,(t r).1=0)(h2:∀ y∈b.take j,(t (a[k]++y)).1=0)(h3:¬(t (a[k]++b[j])).1=0):errsP t (pairsP a b)=(t (a[k]++b[j])).1:=by
 have ea:a=a.take k++a[k]::a.drop (k+1):=by rw[←List.drop_eq_getElem_cons hk,List.take_append_drop]
 have eb:b=b.take j++b[j]::b.drop (j+1):=by rw[←List.drop_eq_getElem_cons hj,List.take_append_drop]
 have e1:pairsP a b=pairsP (a.take k) b++((b.map fun y=>a[k]++y)++pairsP (a.drop (k+1)) b):=by
  conv=>lhs;rw[ea]
  unfold pairsP;rw[List.flatMap_append,List.flatMap_cons]
 have e2:(b.map fun y=>a[k]++y)=((b.take j).map fun y=>a[k]++y)++(a[k]++b[j])::(b.drop (j+1)).map fun y=>a[k]++y:=by
  conv=>lhs;rw[eb]
  rw[List.map_append,List.map_cons]
 have z1:errsP t (pairsP (a.take k) b)=0:=errs_zero.2 h1
 have z2:errsP t ((b.take j).map fun y=>a[k]++y)=0:=errs_zero.2 fun r hr=>by
  obtain⟨y,hy,rfl⟩:=List.mem_map.1 hr;exact h2 y hy
 have z3:errsP t ((b.map fun y=>a[k]++y))=(t (a[k]++b[j])).1:=by
  rw[e2,errs_app,if_pos z2];unfold errsP;rw[List.map_cons,firstE,if_neg h3]
 rw[e1,errs_app,if_pos z1,errs_app,z3,if_neg h3]
def riP(t:List α→Int×Bool)(a b:List (List α))(na:List α)(j:Nat):List (List α):=((b.take j).filter fun y=>a.all fun x => !hitP t x y).map (na ++ ·)
theorem ri_yes{t:List α→Int×Bool}{a b:List (List α)}{na:List α}{j:Nat}(hj:j < b.length)(h:(a.any fun x=>hitP t x b[j])=false):riP t a b na (j+1)=riP t a b na j ++ [na++b[j]]:=by
 have h':(a.all fun x => !hitP t x b[j])=true:=by
  rw[List.all_eq_true];intro x hx;rw[List.any_eq_false]at h
  simpa using h x hx
 unfold riP;rw[take_next hj,List.filter_append,List.map_append];simp only[List.filter_cons,h',if_true,List.filter_nil,List.map_cons,List.map_nil]
theorem ri_no{t:List α→Int×Bool}{a b:List (List α)}{na:List α}{j:Nat}(hj:j < b.length)(h:(a.any fun x=>hitP t x b[j])=true):riP t a b na (j+1)=riP t a b na j:=by
 have h':(a.all fun x => !hitP t x b[j])=false:=by
  rw[List.all_eq_false];obtain⟨x,hx,hh⟩:=List.any_eq_true.1 h;exact⟨x,hx,by simp[hh]⟩
 unfold riP;rw[take_next hj,List.filter_append,List.map_append]
 simp[h']
theorem ri_end(t:List α→Int×Bool)(a b:List (List α))(na:List α):riP t a b na b.length=jRight t a b na:=by simp[riP,jRight]
end
open Go.RowKit
open SC (HV VBox zero_box Args)
def truP(e:E)(r:List BV.V):Int×Bool:=if(e.ev deedP r).1=0 then (if(e.ev deedP r).2.k=1∨(e.ev deedP r).2.k=0 then (0,LG.isV (e.ev deedP r).2 true)else (20,false))else ((e.ev deedP r).1,false)
theorem vnewT(w:World)(v:BV.V):VBox (w.alloc (.cells #[.int .i64 v.k,.int .i64 v.i,.string v.s] 26)) w.heap.size v:=VBox.made w v
theorem truth_e(r:List BV.V)(hr5:r.length≤100000)(e:E)(x:Value)(S:Nat→Prop)(w:World)(A:Option Addr)(c:Nat)(hx:EAt S w e x)(hr:BV.RowAt w w.heap.size A r)(hE:SC.Env w)(hf:e.fit deedP r) :
  Calls Tryz.prog 14 #[x,.slice A r.length c] w fun q w'=>q = .returned (.tuple #[.bool (truP e r).2,.int .i64 (truP e r).1])∧Below w.heap.size w w':=by
 obtain⟨A1,c1,rfl,hs⟩:=hx;obtain⟨W1,hW1,q1,z1,r1⟩:=box7 w (.string (str e.op)) (.int .i64 e.v.k) (.int .i64 e.v.i) (.string (str e.v.s)) (.string (str e.tb)) (.string (str e.nm)) (.slice A1 e.l.length c1);obtain⟨a0,a1,a2,a3,a4,a5,a6⟩:=q1.cells;have HW1:=Hi hW1;have HB:=Hi r1;have CE:=Hi (evalE_any r hr5 e _ S W1 A c ⟨A1,c1,rfl,sub_later hs r1⟩ (hr.later r1) (hE.later r1) hf);obtain⟨an,han⟩:∃ an,e.ev deedP r=an:=⟨_,rfl⟩;have ht:truP e r=if an.1=0 then (if an.2.k=1∨an.2.k=0 then (0,LG.isV an.2 true)else (20,false))else (an.1,false):=by rw[←han];rfl
 rw[han]at CE;rw[ht];clear ht han hs hr hE hf hW1 q1 z1 r1;obtain⟨er,v⟩:=an;unfold vA at CE;unfold eVal at CE ⊢;dsimp only at CE ⊢
 by_cases h0:er=0
 ·subst h0
  rw[if_pos rfl]
  by_cases hk:v.k=1∨v.k=0
  ·rw[if_pos hk]
   rcases hk with hk | hk
   ·go_enter Tryz.func14,Tryz.ntmps14
    go_wp2_with (rw[←HW1.out])
    refine(CE.out).mono ?_;rintro q w2 ⟨rfl,b2⟩;obtain⟨W3,hW3⟩:∃ W3:World,W3=w2.alloc (.cells #[.int .i64 v.k,.int .i64 v.i,.string v.s] 26):=⟨_,rfl⟩;have hb3:Below w2.heap.size w2 W3:=by rw[hW3];exact bel_allocE (Below.refl _ _) _
    have V3:VBox W3 w2.heap.size v:=by rw[hW3];exact vnewT w2 v
    have B3:=Hi (bthen HB.out (bthen b2 hb3));obtain⟨c0,c1',c2⟩:=V3.cells;have HH:=Hi (LG.holds_any v W3);have HW3:=Hi hW3;clear V3 hb3 b2 hW3 a0 a1 a2 a3 a4 a5 a6 CE;rw[hk]at c0 HH HW3
    go_wp2_with (rw[←HW3.out])
    refine(HH.out).mono ?_;rintro q w4 ⟨rfl,b4⟩;go_wp2_with fail
    go_ret2
    exact⟨rfl,bthen B3.out b4⟩
   ·go_enter Tryz.func14,Tryz.ntmps14
    go_wp2_with (rw[←HW1.out])
    refine(CE.out).mono ?_;rintro q w2 ⟨rfl,b2⟩;obtain⟨W3,hW3⟩:∃ W3:World,W3=w2.alloc (.cells #[.int .i64 v.k,.int .i64 v.i,.string v.s] 26):=⟨_,rfl⟩;have hb3:Below w2.heap.size w2 W3:=by rw[hW3];exact bel_allocE (Below.refl _ _) _
    have V3:VBox W3 w2.heap.size v:=by rw[hW3];exact vnewT w2 v
    have B3:=Hi (bthen HB.out (bthen b2 hb3));obtain⟨c0,c1',c2⟩:=V3.cells;have HH:=Hi (LG.holds_any v W3);have HW3:=Hi hW3;clear V3 hb3 b2 hW3 a0 a1 a2 a3 a4 a5 a6 CE;rw[hk]at c0 HH HW3
    go_wp2_with (rw[←HW3.out])
    refine(HH.out).mono ?_;rintro q w4 ⟨rfl,b4⟩;go_wp2_with fail
    go_ret2
    exact⟨rfl,bthen B3.out b4⟩
  ·rw[if_neg hk]
   have hk1:(v.k != 1)=true:=by simp;omega
   have hk0:(v.k != 0)=true:=by simp;omega
   have hn1:¬v.k=1:=by omega
   have hn0:¬v.k=0:=by omega
   clear hk;go_enter Tryz.func14,Tryz.ntmps14
   go_wp2_with (rw[←HW1.out])
   refine(CE.out).mono ?_;rintro q w2 ⟨rfl,b2⟩;obtain⟨W3,hW3⟩:∃ W3:World,W3=w2.alloc (.cells #[.int .i64 v.k,.int .i64 v.i,.string v.s] 26):=⟨_,rfl⟩;have hb3:Below w2.heap.size w2 W3:=by rw[hW3];exact bel_allocE (Below.refl _ _) _
   have V3:VBox W3 w2.heap.size v:=by rw[hW3];exact vnewT w2 v
   have B3:=Hi (bthen HB.out (bthen b2 hb3));obtain⟨c0,c1',c2⟩:=V3.cells;have HH:=Hi (LG.holds_any v W3);have HW3:=Hi hW3;clear V3 hb3 b2 hW3 a0 a1 a2 a3 a4 a5 a6 CE
   go_wp2_with (rw[←HW3.out])
   go_ret2
   exact⟨rfl,B3.out⟩
 ·rw[if_neg h0]
  have hne:(er != 0)=true:=by simpa using h0
  go_enter Tryz.func14,Tryz.ntmps14
  go_wp2_with (rw[←HW1.out])
  refine(CE.out).mono ?_;rintro q w2 ⟨rfl,b2⟩;obtain⟨W3,hW3⟩:∃ W3:World,W3=w2.alloc (.cells #[.int .i64 v.k,.int .i64 v.i,.string v.s] 26):=⟨_,rfl⟩;have hb3:Below w2.heap.size w2 W3:=by rw[hW3];exact bel_allocE (Below.refl _ _) _
  have V3:VBox W3 w2.heap.size v:=by rw[hW3];exact vnewT w2 v
  have B3:=Hi (bthen HB.out (bthen b2 hb3));obtain⟨c0,c1',c2⟩:=V3.cells;have HH:=Hi (LG.holds_any v W3);have HW3:=Hi hW3;clear V3 hb3 b2 hW3 a0 a1 a2 a3 a4 a5 a6 CE
  go_wp2_with (rw[←HW3.out])
  go_ret2
  exact⟨rfl,B3.out⟩
end Go.Proofs.YtcicpjgnpcnnmaaGreatDoor
namespace Go.Proofs.YtcicpjgnpcnnmaaGreatDoor
open Go.RowKit
def okB(W:Int)(e:E):Bool:=(decide (0≤e.left 30) && e.light) && chkW W e == 0
theorem okB_size{e:E}(h:0≤e.left 30):e.size≤100000:=by
 have:=(left_le e 30).2.2 h
 omega
theorem bound_any(V:Int)(es:List E)(v:Vl)(B:Option Addr)(c':Nat)(S:Nat→Prop)(w:World)(hsub:Sub S w (.mk [] v [] [] es) B c') :
  Calls Tryz.prog 9 #[.int .i64 V,.slice B es.length c'] w fun e w'=>e = .returned (.bool (es.all (okB V)))∧Below w.heap.size w w':=by
 obtain⟨hlc,hcm,hmem⟩:=hsub;have hm:es.length≤9223372036854775807:=Nat.le_trans hlc hcm;have HM:=Hi hmem;have HL:Hid (∀ k (hk:k < es.length),(es.drop k).all (okB V)=(okB V es[k] && (es.drop (k+1)).all (okB V))):=fun k hk=>by rw[List.drop_eq_getElem_cons hk,List.all_cons]
 clear hmem hlc hcm;generalize hR:es.all (okB V)=R at *;have HR:Hid ((es.drop 0).all (okB V)=R):=by rw[List.drop_zero];exact hR
 clear hR;go_enter Tryz.func9,Tryz.ntmps9;go_wp2_with fail
 go_loopw [9] (fun iv wr=>∃ k:Nat,k≤es.length∧iv = .int .i64 k∧Hid ((es.drop k).all (okB V)=R)∧Hid (Below w.heap.size w wr)) (fun iv _=>es.length - (intOf iv).toNat)
 case atStart=>exact⟨0,Nat.zero_le _,rfl,HR.out,Below.refl _ _⟩
 case round =>
  obtain⟨k,hk,rfl,HK,HB⟩:=hrel
  by_cases hlt:k < es.length
  ·obtain⟨g,off,rfl,hS,hg,hl⟩:=HM.out (by omega)
   obtain⟨A',c'',⟨g0,g1,g2,g3,g4,g5,g6⟩,hs⟩:=hl.get k hlt;have hkz:(k:Int) < (es.length:Int):=by omega
   have i0:=(HB.out.cell (p:=⟨g,off+k*7,none⟩) hg).trans g0;have i1:=(HB.out.cell (p:=⟨g,off+k*7+1,none⟩) hg).trans g1;have i2:=(HB.out.cell (p:=⟨g,off+k*7+2,none⟩) hg).trans g2;have i3:=(HB.out.cell (p:=⟨g,off+k*7+3,none⟩) hg).trans g3;have i4:=(HB.out.cell (p:=⟨g,off+k*7+4,none⟩) hg).trans g4;have i5:=(HB.out.cell (p:=⟨g,off+k*7+5,none⟩) hg).trans g5;have i6:=(HB.out.cell (p:=⟨g,off+k*7+6,none⟩) hg).trans g6;obtain⟨W1,W,hW1,hW,b1,b2,hz,hb1,hb2⟩:=made7 wr (.string (str es[k].op)) (.int .i64 es[k].v.k) (.int .i64 es[k].v.i) (.string (str es[k].v.s)) (.string (str es[k].tb)) (.string (str es[k].nm)) (.slice A' es[k].l.length c'');have f1:=b1.free;have y1:=b2.cells;obtain⟨p10,p11,p12,p13,p14,p15,p16⟩:=b1.cells
   have hE:EAt S W es[k] (eVal es[k].op es[k].v es[k].tb es[k].nm (.slice A' es[k].l.length c'')):=by
    have h0:EAt S w es[k] (eVal es[k].op es[k].v es[k].tb es[k].nm (.slice A' es[k].l.length c'')):=⟨A',c'',rfl,hs⟩;exact(h0.later HB.out).later hb2
   have HF:=Hi (few_e es[k] _ S W 30 hE (by omega) (by omega))
   have HG:=Hi (fun W2 (hb:Below W.heap.size W W2)=>light_any es[k] _ S W2 (hE.later hb))
   have HC:=Hi (fun W2 (hb:Below W.heap.size W W2) (h1:decide (0≤es[k].left 30)=true) (h2:es[k].light=true)=>rck_any V es[k] _ S W2 (hE.later hb) (okB_size (by simpa using h1)) h2)
   have hKK:=HL.out k hlt;rw[HK.out]at hKK;have hko:okB V es[k]=((decide (0≤es[k].left 30) && es[k].light) && chkW V es[k] == 0):=rfl;rw[hko]at hKK;have HB2:=Hi (bthen HB.out hb2);have HW1:=Hi hW1;have HW:=Hi hW;obtain⟨f10,f11,f12,f13,f14,f15,f16⟩:=f1;have HQ2:=Hi b2;obtain⟨y10,y11,y12,y13,y14,y15,y16⟩:=y1;unfold eVal at HF HG HC;generalize str es[k].op=bo' at *;generalize str es[k].tb=bt' at *;generalize str es[k].nm=bn' at *;generalize str es[k].v.s=bs' at *;generalize es[k].v.k=vk' at *;generalize es[k].v.i=vi' at *;generalize es[k].l.length=ln' at *;generalize decide (0≤es[k].left 30)=Q1 at *;generalize es[k].light=Q2 at *;generalize chkW V es[k]=Q3 at *;have HKK:=Hi hKK;clear hW1 hW hs hl hE g0 g1 g2 g3 g4 g5 g6 b1 b2 hb1 hb2 HB HM HK HR HL hKK hko
   go_wp2_with (first | (rw[←HW.out]) | (rw[←HW1.out]))
   refine(HF.out).mono ?_;rintro e w3 ⟨rfl,b3⟩;have hk3:=HKK.out;have HB3:=Hi (bthen HB2.out b3);have q3:=HQ2.out.later b3;have HG3:=Hi (HG.out w3 b3);have HC3:=Hi (fun W2 (hb:Below w3.heap.size w3 W2)=>HC.out W2 (bthen b3 hb))
   have HQ3:=Hi q3;obtain⟨u0,u1,u2,u3,u4,u5,u6⟩:=q3.cells;clear y10 y11 y12 y13 y14 y15 y16 q3 b3 HF HG HC HQ2;cases Q1
   ·rw[Bool.false_and,Bool.false_and,Bool.false_and]at hk3
    subst hk3;clear HG3 HC3 HQ3 HKK;go_wp2_with fail;exact bodyPost_ret (v:= .bool false) (by simp[results,Tryz.results9,go_sem]) rfl ⟨by simp,HB3.out⟩
   ·rw[Bool.true_and]at hk3
    have HK3:=Hi hk3;clear hk3 HKK;go_wp2_with fail;refine(HG3.out).mono ?_;rintro e w4 ⟨rfl,b4⟩;have HB4:=Hi (bthen HB3.out b4);have hk3:=HK3.out;have HC4:=Hi (HC3.out w4 b4 trivial);have q4:=HQ3.out.later b4;obtain⟨t0,t1,t2,t3,t4,t5,t6⟩:=q4.cells;clear b4 u0 u1 u2 u3 u4 u5 u6 HK3 HG3 HC3 HQ3 q4;cases Q2
    ·rw[Bool.false_and,Bool.false_and]at hk3
     subst hk3;clear HC4;go_wp2_with fail;exact bodyPost_ret (v:= .bool false) (by simp[results,Tryz.results9,go_sem]) rfl ⟨by simp,HB4.out⟩
    ·rw[Bool.true_and]at hk3
     have HK3:=Hi hk3;have HC5:=Hi (HC4.out rfl);clear hk3 HC4;go_wp2_with fail;refine(HC5.out).mono ?_;rintro e w5 ⟨rfl,b5⟩;have HB5:=Hi (bthen HB4.out b5);have hk3:=HK3.out;clear b5 t0 t1 t2 t3 t4 t5 t6 HK3 HC5
     by_cases h0:Q3=0
     ·subst h0
      have HK5:=Hi (show(es.drop (k+1)).all (okB V)=R by simpa using hk3.symm)
      clear hk3;go_wp2_with fail
      go_roundw
      case measure=>simp[intOf];omega
      case rel=>exact⟨k+1,by omega,by go_num,HK5.out,HB5.out⟩
     ·have h1:(Q3 == 0)=false:=by simpa using h0
      have h2:(Q3 != 0)=true:=by simpa using h0
      rw[h1,Bool.false_and]at hk3;subst hk3;clear h0 h1;go_wp2_with fail;exact bodyPost_ret (v:= .bool false) (by simp[results,Tryz.results9,go_sem]) rfl ⟨by simp,HB5.out⟩
  ·have hke:k=es.length:=by omega
   have hkz:¬(k:Int) < (es.length:Int):=by omega
   subst hke;have hKK:=HK.out;rw[List.drop_length,List.all_nil]at hKK;subst hKK;clear HM HL HR HK;go_wp2_with fail;exact bodyPost_ret (v:= .bool true) (by simp[results,Tryz.results9,go_sem]) rfl ⟨by simp,HB.out⟩
theorem okB_facts{W:Int}{e:E}(h:okB W e=true):e.size≤31∧e.light=true∧e.good W=true∧e.deep≤40:=by
 unfold okB at h;simp only[Bool.and_eq_true,decide_eq_true_eq,beq_iff_eq]at h;obtain⟨⟨h1,h2⟩,h3⟩:=h;have h4:=(left_le e 30).2.2 h1;obtain⟨h5,h6⟩:=chkW_ok.1 h3;exact⟨by omega,h2,h5,h6⟩
theorem bound_fit{W:Int}{e:E}(h:okB W e=true)(hin:e.ints=true)(r:List BV.V)(hx:∀ v∈r,(-9223372036854775808≤v.i∧v.i≤9223372036854775807)∧v.s.size≤100000):e.fit deedP r:=by
 obtain⟨h1,h2,-,-⟩:=okB_facts h;exact(ev_fit deeds_small hx e (by omega) hin (light_lt e h2)).1
end Go.Proofs.YtcicpjgnpcnnmaaGreatDoor
