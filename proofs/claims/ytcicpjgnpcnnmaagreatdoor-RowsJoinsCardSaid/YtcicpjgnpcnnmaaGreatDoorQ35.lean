import Derived.Test.YtcicpjgnpcnnmaaGreatDoorQ34
set_option maxRecDepth 100000
set_option maxHeartbeats 4000000
set_option linter.unusedSimpArgs false
set_option linter.unusedVariables false
namespace Go.Proofs.YtcicpjgnpcnnmaaGreatDoor
open Go.RowKit
open SC (VBox)
theorem made_zL(n:Nat)(h:n≤2000)(w:World):(Instr.makeSlice 38 (.int .i64 (n:Int)) (.int .i64 (n:Int))).run Tryz.prog w = .ok (.slice (some ⟨w.heap.size,0,none⟩) n n) (w.alloc (.cells (BV.flat (List.replicate n zW)).toArray 26)):=by
 obtain⟨i0,hi,hz0,hz1,hz2⟩:=infoVp;have:=run_make (P:=Tryz.prog) w 38 26 i0 _ Tryz.underlying38 hi hz0 .i64 .i64 n n (by omega) (by omega) (by rw[hz2];omega) (by omega)
 rw[this,Int.toNat_natCast,hz1,LG.made3]
 rfl
theorem asks_any(r:List BV.V)(hr5:r.length≤100000)(es:List Ag)(S:Nat→Prop)(w:World)(A B:Option Addr)(c d:Nat)(hmem:AgsAt S w B es)(hr:BV.RowAt w w.heap.size A r)(hE:SC.Env w)(hf:∀ a∈es,a.star=false→a.e.fit deedP r)(hl:es.length≤2000) :
  Calls Tryz.prog 76 #[.slice B es.length d,.slice A r.length c] w (Vals w (es.map fun a=>askP a r)):=by
 have HM:=Hi hmem;obtain⟨l,hll⟩:∃ l,es.map (fun a=>askP a r)=l:=⟨_,rfl⟩
 obtain⟨n,hn⟩:∃ n,n=es.length:=⟨_,rfl⟩;have hln:l.length=n:=by rw[←hll,List.length_map,hn]
 have HEV:=Hi (fun k (hk:k < es.length) A' c' (W:World) (hx:Sub S W es[k].e A' c') (hb:Below w.heap.size w W)=>asked_any es[k] r hr5 S W A' A c' c hx (hr.later hb) (hE.later hb) (hf _ (List.getElem_mem hk)))
 have HG:Hid (∀ k (hk:k < n),∃ (h1:k < es.length) (h2:k < l.length),askP es[k] r=l[k]):=Hi fun k hk=>⟨by omega,by omega,by subst hll;simp⟩
 have HLN:=Hi hln;have hml:(l.map (·.2)).length=n:=by rw[List.length_map,hln]
 have HML:=Hi hml;have hmk:=made_zL n (by omega) w
 obtain⟨W1,hW1⟩:∃ W1:World,W1=w.alloc (.cells (BV.flat (List.replicate n zW)).toArray 26):=⟨_,rfl⟩;have hb1:Below w.heap.size w W1:=by rw[hW1];exact(Below.refl _ _).alloc (Nat.le_refl _) _
 have HO1:Hid (OwnV W1 w.heap.size (.slice (some ⟨w.heap.size,0,none⟩) n n) ((l.map (·.2)).take 0++List.replicate (n - 0) zW)):=Hi (by rw[hW1];simpa using ownV_made w n (by omega))
 rw[←hW1]at hmk;have HB1:=Hi hb1;rw[hll];rw[←hn]at hl ⊢;generalize r.length=rl at *;clear hmem hr hE hf hll hn hln hml hW1 hb1;go_enter Tryz.func76,Tryz.ntmps76;go_wp2_with fail
 go_loopw [16] (fun i wr=>∃ k:Nat,k≤n∧i = .int .i64 k∧Hid (∀ a∈l.take k,a.1=0)∧Hid (OwnV wr w.heap.size (.slice (some ⟨w.heap.size,0,none⟩) n n) ((l.map (·.2)).take k++List.replicate (n - k) zW))∧Hid (Below w.heap.size w wr)) (fun i _=>n - (intOf i).toNat)
 case atStart=>exact⟨0,Nat.zero_le _,rfl,Hi (by simp),HO1,HB1⟩
 case round =>
  obtain⟨k,hk,rfl,HC,HO,HB⟩:=hrel
  by_cases hlt:k < n
  ·obtain⟨hke,hkl,hkk⟩:=HG.out k hlt
   obtain⟨g,off,rfl,hg,hl9⟩:=HM.out (by omega)
   obtain⟨A',c'',hcells,hs⟩:=hl9 k hke;have hkz:(k:Int) < (n:Int):=by omega
   obtain⟨i0,i1,i2,i3,i4,i5,i6,i7,i8⟩:=(hcells.later HB.out hg:AgCells wr g (off+k*9) es[k] _);obtain⟨Wa,Wb,hWa,hWb,b1,b2,hz,hb1,hb2⟩:=made9 wr (.string es[k].nm) (.bool es[k].star) (.string (str es[k].e.op)) (.int .i64 es[k].e.v.k) (.int .i64 es[k].e.v.i) (.string (str es[k].e.v.s)) (.string (str es[k].e.tb)) (.string (str es[k].e.nm)) (.slice A' es[k].e.l.length c'');obtain⟨f10,f11,f12,f13,f14,f15,f16,f17,f18⟩:=b1.free;obtain⟨y10,y11,y12,y13,y14,y15,y16,y17,y18⟩:=b2.cells;obtain⟨p10,p11,p12,p13,p14,p15,p16,p17,p18⟩:=b1.cells;have HCE:=Hi (HEV.out k hke A' c'' Wb (sub_later (sub_later hs HB.out) hb2) (bthen HB.out hb2));rw[hkk]at HCE;have HTN:Hid (l.take (k+1)=l.take k ++ [l[k]]):=Hi (take_next hkl);have hkm:k < (l.map (·.2)).length:=by rw[HML.out];exact hlt
   have HPN:=Hi (putV_next (n:=n) hkm HML.out.symm);rw[List.getElem_map]at HPN;have HNO:=Hi (fun W (h:¬l[k].1=0) (hb:Below w.heap.size w W)=>vals_no hkl HC.out h hb)
   have HBb:=Hi (bthen HB.out hb2);have HOb:=Hi (HO.out.later hb2);have HWa:=Hi hWa;have HWb:=Hi hWb;unfold Ag.val vA at HCE;generalize es[k].nm=bz' at *;generalize es[k].star=st' at *;generalize str es[k].e.op=bo' at *;generalize str es[k].e.tb=bt' at *;generalize str es[k].e.nm=bn' at *;generalize str es[k].e.v.s=bs' at *;generalize es[k].e.v.k=vk' at *;generalize es[k].e.v.i=vi' at *;generalize es[k].e.l.length=ln' at *;generalize l[k]=an at *;obtain⟨er,uk,ui,us⟩:=an;clear hkk hWa hWb hs hl9 hcells b1 b2 hb1 hb2 hz HB HO HEV HM HG hkl hkm;dsimp only at HCE HPN HNO
   go_wp2_with (first | (rw[←HWb.out]) | (rw[←HWa.out]))
   refine(HCE.out).mono ?_;rintro e w3 ⟨rfl,b3⟩;obtain⟨W4,hW4⟩:∃ W4:World,W4=w3.alloc (.cells #[.int .i64 uk,.int .i64 ui,.string us] 26):=⟨_,rfl⟩;have b4:Below w3.heap.size w3 W4:=by rw[hW4];exact(Below.refl _ _).alloc (Nat.le_refl _) _
   have v4:VBox W4 w3.heap.size ⟨uk,ui,us⟩:=by rw[hW4];exact VBox.made w3 ⟨uk,ui,us⟩
   obtain⟨m0,m1,m2⟩:=v4.cells;have HB4:=Hi (bthen HBb.out (bthen b3 b4));have HO4:=Hi (HOb.out.later (bthen b3 b4));have HW4:=Hi hW4;dsimp only at m0 m1 m2;clear b3 b4 v4 hW4 HCE HBb HOb y10 y11 y12 y13 y14 y15 y16 y17 y18 f10 f11 f12 f13 f14 f15 f16 f17 f18 p10 p11 p12 p13 p14 p15 p16 p17 p18 HWa HWb i0 i1 i2 i3 i4 i5 i6 i7 i8
   by_cases h0:er=0
   ·subst h0
    have hlen:k < ((l.map (·.2)).take k++List.replicate (n - k) zW).length:=by rw[List.length_append,List.length_take,List.length_replicate,HML.out];omega
    obtain⟨q0,q1,q2⟩:=ownV_cells HO4.out k hlen;have fr0:=ownV_free HO4.out (k*3);have fr1:=ownV_free HO4.out (k*3+1);have fr2:=ownV_free HO4.out (k*3+2);have h6:=ownV_set HO4.out k ⟨uk,ui,us⟩ hlen;rw[HPN.out]at h6;have HO6:=Hi h6;have HB6:=Hi (set3k HB4.out (Nat.le_refl w.heap.size) (k*3) (k*3+1) (k*3+2) (.int .i64 uk) (.int .i64 ui) (.string us))
    have HC':Hid (∀ a∈l.take (k+1),a.1=0):=by
     rw[HTN.out];refine Hi fun a h => ?_
     rcases List.mem_append.1 h with h | h
     ·exact HC.out a h
     ·rw[List.mem_singleton]at h
      rw[h]
    generalize ((l.map (·.2)).take k++List.replicate (n - k) zW)[k]=ov at *;clear h6 HC HTN HPN HNO hlen HO4 HB4
    go_wp2_with (rw[←HW4.out])
    go_roundw
    case rel=>exact⟨k+1,by omega,by go_num,HC',HO6,HB6⟩
    case measure=>simp[intOf];omega
   ·have e0:(er != 0)=true:=by simpa using h0
    have HFIN:=Hi (HNO.out W4 h0 HB4.out);clear HC HTN HPN HNO HO4 HB4
    go_wp2_with (rw[←HW4.out])
    go_ret2
    exact HFIN.out
  ·obtain rfl:k=n:=by omega
   have ho:=HO.out;rw[Nat.sub_self,List.replicate_zero,List.append_nil,List.take_of_length_le (by rw[HML.out];exact Nat.le_refl _)]at ho
   have hc:=HC.out;rw[List.take_of_length_le (by rw[HLN.out];exact Nat.le_refl _)]at hc
   have HFIN:=Hi (vals_yes hc ho HB.out);clear ho hc HO HC HEV HM HG;go_wp2_with fail
   go_ret2
   exact HFIN.out
end Go.Proofs.YtcicpjgnpcnnmaaGreatDoor
namespace Go.Proofs.YtcicpjgnpcnnmaaGreatDoor
open Go.RowKit
def projE(es:List E)(r:List BV.V):Int:=firstE ((es.map fun e=>e.ev deedP r).map (·.1))
def projV(es:List E)(r:List BV.V):List BV.V:=(es.map fun e=>e.ev deedP r).map (·.2)
def RowsE(w:World)(er:Int)(l:List (List BV.V))(q:Ending)(w':World):Prop:=∃ v,q = .returned (.tuple #[v,.int .i64 er])∧Hid (OwnR w' w.heap.size v (if er=0 then l else []))∧Hid (Below w.heap.size w w')
theorem rowsE_no{w W:World}{er:Int}{l:List (List BV.V)}(h:¬er=0)(hb:Hid (Below w.heap.size w W)):RowsE w er l (.returned (.tuple #[.slice none 0 0,.int .i64 er])) W:=⟨_,rfl,Hi (by rw[if_neg h];exact OwnR.nil _ _),hb⟩
theorem rowsE_yes{w W:World}{v:Value}{l:List (List BV.V)}(ho:OwnR W w.heap.size v l)(hb:Hid (Below w.heap.size w W)):RowsE w 0 l (.returned (.tuple #[v,.int .i64 0])) W:=⟨_,rfl,Hi (by rw[if_pos rfl];exact ho),hb⟩
theorem firstE_at{l:List Int}{k:Nat}(hk:k < l.length)(h0:∀ a∈l.take k,a=0)(h:¬l[k]=0):firstE l=l[k]:=by
 have h1:l=l.take k++l[k]::l.drop (k+1):=by rw[←List.drop_eq_getElem_cons hk,List.take_append_drop]
 conv=>lhs;rw[h1]
 rw[firstE_app,if_pos (firstE_zero.2 h0)];simp only[firstE];rw[if_neg h]
end Go.Proofs.YtcicpjgnpcnnmaaGreatDoor
