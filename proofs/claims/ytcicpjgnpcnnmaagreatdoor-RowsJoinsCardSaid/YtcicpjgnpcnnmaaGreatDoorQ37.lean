import Derived.Test.YtcicpjgnpcnnmaaGreatDoorQ35
set_option maxRecDepth 100000
set_option maxHeartbeats 8000000
set_option linter.unusedSimpArgs false
set_option linter.unusedVariables false
namespace Go.Proofs.YtcicpjgnpcnnmaaGreatDoor
open Go.RowKit
open SC (VBox)
def vvC(a b:BV.V):Int:=BV.cmpV a.k a.i a.s b.k b.i b.s
def minP(m:BV.V):List BV.V→BV.V
 | []=>m
 | v::l=>minP (if vvC v m < 0 then v else m) l
def maxP(m:BV.V):List BV.V→BV.V
 | []=>m
 | v::l=>maxP (if 0 < vvC v m then v else m) l
theorem bel_drewM(w:World):Below w.heap.size w w.drew:=⟨rfl,rfl,rfl,Nat.le_refl _,fun _ _=>rfl⟩
theorem vsetM{w:World}{b:Nat}{v:BV.V}(h:VBox w b v)(k i:Int)(s:ByteArray):VBox (((w.setCell ⟨b,0,none⟩ (.int .i64 k)).setCell ⟨b,1,none⟩ (.int .i64 i)).setCell ⟨b,2,none⟩ (.string s)) b ⟨k,i,s⟩:=by
 unfold SC.VBox;rw[Lib.heap_setCell_same (Lib.heap_setCell_same (Lib.heap_setCell_same h _) _) _]
 rfl
theorem vkeepM{w:World}{b g:Nat}{v:BV.V}(h:VBox w b v)(hne:b≠g)(x y z:Value):VBox (((w.setCell ⟨g,0,none⟩ x).setCell ⟨g,1,none⟩ y).setCell ⟨g,2,none⟩ z) b v:=by
 unfold SC.VBox;rw[Below.heap_setCell _ _ _ _ hne,Below.heap_setCell _ _ _ _ hne,Below.heap_setCell _ _ _ _ hne];exact h
theorem min_next{m:BV.V}{l:List BV.V}{k:Nat}(hk:k < l.length):minP m (l.take (k+1))=if vvC l[k] (minP m (l.take k)) < 0 then l[k]else minP m (l.take k):=by
 induction l generalizing m k with
 | nil=>simp at hk
 | cons a l ih =>
  cases k with
  | zero=>simp[minP]
  | succ k =>
   simp only[List.take_succ_cons,minP,List.getElem_cons_succ];exact ih (by simpa using hk)
theorem minF_any(v0:BV.V)(vs:List BV.V)(w:World)(A:Option Addr)(c:Nat)(hr:BV.RowAt w w.heap.size A (v0::vs))(hl:vs.length≤1000000) :
  Calls Tryz.prog 131 #[.slice A (v0::vs).length c,.func (.func 72) #[] #[]] w fun q w'=>q = .returned (vV (minP v0 vs))∧Below w.heap.size w w':=by
 obtain⟨ba,off,rfl,hlt0,hc⟩:=hr (by simp)
 obtain⟨n,hn⟩:∃ n,n=(v0::vs).length:=⟨_,rfl⟩;have hn1:n=vs.length+1:=by rw[hn];rfl
 have HC:=Hi hc;have HLT:=Hi hlt0;have HN:=Hi hn;have HN1:=Hi hn1;obtain⟨i0,i1,i2⟩:=hc 0 (by simp)
 simp only[List.getElem_cons_zero,Nat.zero_mul,Nat.add_zero]at i0 i1 i2
 have HNX:Hid (∀ k,1≤k→k < n→∃ h:k < (v0::vs).length,minP v0 (vs.take k)=if vvC (v0::vs)[k] (minP v0 (vs.take (k - 1))) < 0 then (v0::vs)[k]else minP v0 (vs.take (k - 1))):=Hi fun k h1 h2=>by
  obtain⟨j,rfl⟩:∃ j,k=j+1:=⟨k - 1,by omega⟩
  exact⟨by omega,by simpa using min_next (m:=v0) (l:=vs) (k:=j) (by omega)⟩
 have HALL:Hid (vs.take (n - 1)=vs):=Hi (by rw[hn1];exact List.take_of_length_le (by omega))
 obtain⟨W1,hW1⟩:∃ W1:World,W1=w.alloc (.cells #[.int .i64 0,.int .i64 0,.string ⟨#[]⟩] 26):=⟨_,rfl⟩;obtain⟨W2,hW2⟩:∃ W2:World,W2=W1.alloc (.cells #[.int .i64 v0.k,.int .i64 v0.i,.string v0.s] 26):=⟨_,rfl⟩;have z1:W1.heap.size=w.heap.size+1:=by rw[hW1];simp
 have b1:Below w.heap.size w W1:=by rw[hW1];exact(Below.refl _ _).alloc (Nat.le_refl _) _
 have b2:Below W1.heap.size W1 W2:=by rw[hW2];exact(Below.refl _ _).alloc (Nat.le_refl _) _
 have q1:VBox W1 w.heap.size zW:=by rw[hW1];exact VBox.made w zW
 have q2:VBox W2 W1.heap.size v0:=by rw[hW2];exact VBox.made W1 v0
 have j0:=(b1.cell (p:=⟨ba,_,none⟩) hlt0).trans i0;have j1:=(b1.cell (p:=⟨ba,_,none⟩) hlt0).trans i1;have j2:=(b1.cell (p:=⟨ba,_,none⟩) hlt0).trans i2;have HQ1:=Hi (q1.later b2);have HQ2:=Hi q2;have HB2:=Hi (bthen b1 b2);have HW1:=Hi hW1;have HW2:=Hi hW2;have Z1:=Hi z1;have HCMP:=Hi (fun(a b:BV.V) (W:World)=>BV.cmpV_any a.k a.i b.k b.i a.s b.s W)
 have hn0:¬((n:Int) < 1):=by omega
 have hnb:n≤1000001:=by omega
 obtain⟨R,hR⟩:∃ R,minP v0 vs=R:=⟨_,rfl⟩;have HR:=Hi hR;rw[←hn,hR];unfold vV;obtain⟨rk,ri,rs⟩:=R;dsimp only;clear hR hc hlt0 hn hn1 hW1 hW2 z1 b1 b2 q1 q2 i0 i1 i2 hr;have hpos:0 < n:=by omega
 go_enter Tryz.func131,Tryz.ntmps131
 go_wp2_with (first | (rw[←HW2.out]) | (rw[←HW1.out]))
 clear j0 j1 j2
 go_loopw [6] (fun iv wr=>∃ k:Nat,1≤k∧k≤n∧iv = .int .i64 k∧Hid (VBox wr w.heap.size zW)∧Hid (VBox wr W1.heap.size (minP v0 (vs.take (k - 1))))∧Hid (Below w.heap.size w wr)) (fun iv _=>n - (intOf iv).toNat)
 case atStart=>exact⟨1,Nat.le_refl _,by omega,rfl,HQ1,HQ2,HB2⟩
 case round =>
  obtain⟨k,hk1,hk,rfl,Q1,Q2,HB⟩:=hrel
  by_cases hlt:k < n
  ·obtain⟨hkx,hnx⟩:=HNX.out k hk1 hlt
   obtain⟨e0,e1,e2⟩:=HC.out k hkx;have i0:=(HB.out.cell (p:=⟨ba,_,none⟩) HLT.out).trans e0;have i1:=(HB.out.cell (p:=⟨ba,_,none⟩) HLT.out).trans e1;have i2:=(HB.out.cell (p:=⟨ba,_,none⟩) HLT.out).trans e2;obtain⟨y0,y1,y2⟩:=Q2.out.cells;generalize (v0::vs)[k]=x at *;have HC1:=Hi (HCMP.out x (minP v0 (vs.take (k - 1))) wr.drew);have hcv:BV.cmpV x.k x.i x.s (minP v0 (vs.take (k - 1))).k (minP v0 (vs.take (k - 1))).i (minP v0 (vs.take (k - 1))).s=vvC x (minP v0 (vs.take (k - 1))):=rfl;rw[hcv]at HC1;generalize minP v0 (vs.take (k - 1))=m at *;generalize vvC x m=cv at *;obtain⟨xk,xi,xs⟩:=x;obtain⟨mk,mi,ms⟩:=m;dsimp only at HC1 i0 i1 i2 y0 y1 y2 e0 e1 e2;have E0:=Hi e0;have E1:=Hi e1;have E2:=Hi e2;have HNX1:=Hi hnx;clear hnx e0 e1 e2 hkx HNX HC HCMP hcv;go_wp2_with fail
   go_region_law (first
    | (go_simp;go_at_call 72;refine HC1.out.mono ?_;rintro q w3 ⟨rfl,b3⟩))
   all_goals
    have HB3:=Hi (bthen HB.out (bthen (bel_drewM wr) b3));have Q13:=Hi (Q1.out.later (bthen (bel_drewM wr) b3));have Q23:=Hi (Q2.out.later (bthen (bel_drewM wr) b3));have i0':=(HB3.out.cell (p:=⟨ba,_,none⟩) HLT.out).trans E0.out;have i1':=(HB3.out.cell (p:=⟨ba,_,none⟩) HLT.out).trans E1.out;have i2':=(HB3.out.cell (p:=⟨ba,_,none⟩) HLT.out).trans E2.out;obtain⟨y0',y1',y2'⟩:=Q23.out.cells;obtain⟨f0,f1,f2⟩:=Q23.out.free;dsimp only at y0' y1' y2';clear i0 i1 i2 y0 y1 y2 b3 HB Q1 Q2
    by_cases h0:cv < 0
    ·have hnx:=HNX1.out
     rw[if_pos h0]at hnx;obtain⟨W6,hW6⟩:∃ W6:World,W6=((w3.setCell ⟨W1.heap.size,0,none⟩ (.int .i64 xk)).setCell ⟨W1.heap.size,1,none⟩ (.int .i64 xi)).setCell ⟨W1.heap.size,2,none⟩ (.string xs):=⟨_,rfl⟩;have HB6:Hid (Below w.heap.size w W6):=Hi (by rw[hW6];exact set3k HB3.out (by have:=Z1.out;omega) 0 1 2 _ _ _)
     have Q26:Hid (VBox W6 W1.heap.size (minP v0 (vs.take (k+1 - 1)))):=Hi (by rw[Nat.add_sub_cancel,hnx,hW6];exact vsetM Q23.out xk xi xs)
     have Q16:Hid (VBox W6 w.heap.size zW):=Hi (by rw[hW6];exact vkeepM Q13.out (by have:=Z1.out;omega) _ _ _)
     have HW6:=Hi hW6;clear hW6 hnx HNX1 Q13 Q23 HB3
     go_wp2_with (rw[←HW6.out])
     go_roundw
     case rel=>exact⟨k+1,by omega,by omega,by go_num,Q16,Q26,HB6⟩
     case measure=>simp[intOf];omega
    ·have hnx:=HNX1.out
     rw[if_neg h0]at hnx;have Q26:Hid (VBox w3 W1.heap.size (minP v0 (vs.take (k+1 - 1)))):=Hi (by rw[Nat.add_sub_cancel,hnx];exact Q23.out)
     clear hnx HNX1 Q23;go_wp2_with fail
     go_roundw
     case rel=>exact⟨k+1,by omega,by omega,by go_num,Q13,Q26,HB3⟩
     case measure=>simp[intOf];omega
  ·obtain rfl:k=n:=by omega
   have Q2':=Q2.out;rw[HALL.out,HR.out]at Q2';obtain⟨y0,y1,y2⟩:=Q2'.cells;obtain⟨g0,g1,g2⟩:=Q1.out.cells;obtain⟨f0,f1,f2⟩:=Q1.out.free;simp only[zW]at g0 g1 g2;dsimp only at y0 y1 y2;clear Q2' Q2 HNX HC HCMP;go_wp2_with fail;exact bodyPost_ret (v:= .agg #[.int .i64 rk,.int .i64 ri,.string rs]) (by simp[results,Tryz.results131,go_sem,g0,g1,g2]) rfl ⟨rfl,set3_new HB.out _ _ _⟩
theorem max_next{m:BV.V}{l:List BV.V}{k:Nat}(hk:k < l.length):maxP m (l.take (k+1))=if 0 < vvC l[k] (maxP m (l.take k))then l[k]else maxP m (l.take k):=by
 induction l generalizing m k with
 | nil=>simp at hk
 | cons a l ih =>
  cases k with
  | zero=>simp[maxP]
  | succ k =>
   simp only[List.take_succ_cons,maxP,List.getElem_cons_succ];exact ih (by simpa using hk)
theorem maxF_any(v0:BV.V)(vs:List BV.V)(w:World)(A:Option Addr)(c:Nat)(hr:BV.RowAt w w.heap.size A (v0::vs))(hl:vs.length≤1000000) :
  Calls Tryz.prog 132 #[.slice A (v0::vs).length c,.func (.func 72) #[] #[]] w fun q w'=>q = .returned (vV (maxP v0 vs))∧Below w.heap.size w w':=by
 obtain⟨ba,off,rfl,hlt0,hc⟩:=hr (by simp)
 obtain⟨n,hn⟩:∃ n,n=(v0::vs).length:=⟨_,rfl⟩;have hn1:n=vs.length+1:=by rw[hn];rfl
 have HC:=Hi hc;have HLT:=Hi hlt0;have HN:=Hi hn;have HN1:=Hi hn1;obtain⟨i0,i1,i2⟩:=hc 0 (by simp)
 simp only[List.getElem_cons_zero,Nat.zero_mul,Nat.add_zero]at i0 i1 i2
 have HNX:Hid (∀ k,1≤k→k < n→∃ h:k < (v0::vs).length,maxP v0 (vs.take k)=if 0 < vvC (v0::vs)[k] (maxP v0 (vs.take (k - 1)))then (v0::vs)[k]else maxP v0 (vs.take (k - 1))):=Hi fun k h1 h2=>by
  obtain⟨j,rfl⟩:∃ j,k=j+1:=⟨k - 1,by omega⟩
  exact⟨by omega,by simpa using max_next (m:=v0) (l:=vs) (k:=j) (by omega)⟩
 have HALL:Hid (vs.take (n - 1)=vs):=Hi (by rw[hn1];exact List.take_of_length_le (by omega))
 obtain⟨W1,hW1⟩:∃ W1:World,W1=w.alloc (.cells #[.int .i64 0,.int .i64 0,.string ⟨#[]⟩] 26):=⟨_,rfl⟩;obtain⟨W2,hW2⟩:∃ W2:World,W2=W1.alloc (.cells #[.int .i64 v0.k,.int .i64 v0.i,.string v0.s] 26):=⟨_,rfl⟩;have z1:W1.heap.size=w.heap.size+1:=by rw[hW1];simp
 have b1:Below w.heap.size w W1:=by rw[hW1];exact(Below.refl _ _).alloc (Nat.le_refl _) _
 have b2:Below W1.heap.size W1 W2:=by rw[hW2];exact(Below.refl _ _).alloc (Nat.le_refl _) _
 have q1:VBox W1 w.heap.size zW:=by rw[hW1];exact VBox.made w zW
 have q2:VBox W2 W1.heap.size v0:=by rw[hW2];exact VBox.made W1 v0
 have j0:=(b1.cell (p:=⟨ba,_,none⟩) hlt0).trans i0;have j1:=(b1.cell (p:=⟨ba,_,none⟩) hlt0).trans i1;have j2:=(b1.cell (p:=⟨ba,_,none⟩) hlt0).trans i2;have HQ1:=Hi (q1.later b2);have HQ2:=Hi q2;have HB2:=Hi (bthen b1 b2);have HW1:=Hi hW1;have HW2:=Hi hW2;have Z1:=Hi z1;have HCMP:=Hi (fun(a b:BV.V) (W:World)=>BV.cmpV_any a.k a.i b.k b.i a.s b.s W)
 have hn0:¬((n:Int) < 1):=by omega
 have hnb:n≤1000001:=by omega
 obtain⟨R,hR⟩:∃ R,maxP v0 vs=R:=⟨_,rfl⟩;have HR:=Hi hR;rw[←hn,hR];unfold vV;obtain⟨rk,ri,rs⟩:=R;dsimp only;clear hR hc hlt0 hn hn1 hW1 hW2 z1 b1 b2 q1 q2 i0 i1 i2 hr;have hpos:0 < n:=by omega
 go_enter Tryz.func132,Tryz.ntmps132
 go_wp2_with (first | (rw[←HW2.out]) | (rw[←HW1.out]))
 clear j0 j1 j2
 go_loopw [6] (fun iv wr=>∃ k:Nat,1≤k∧k≤n∧iv = .int .i64 k∧Hid (VBox wr w.heap.size zW)∧Hid (VBox wr W1.heap.size (maxP v0 (vs.take (k - 1))))∧Hid (Below w.heap.size w wr)) (fun iv _=>n - (intOf iv).toNat)
 case atStart=>exact⟨1,Nat.le_refl _,by omega,rfl,HQ1,HQ2,HB2⟩
 case round =>
  obtain⟨k,hk1,hk,rfl,Q1,Q2,HB⟩:=hrel
  by_cases hlt:k < n
  ·obtain⟨hkx,hnx⟩:=HNX.out k hk1 hlt
   obtain⟨e0,e1,e2⟩:=HC.out k hkx;have i0:=(HB.out.cell (p:=⟨ba,_,none⟩) HLT.out).trans e0;have i1:=(HB.out.cell (p:=⟨ba,_,none⟩) HLT.out).trans e1;have i2:=(HB.out.cell (p:=⟨ba,_,none⟩) HLT.out).trans e2;obtain⟨y0,y1,y2⟩:=Q2.out.cells;generalize (v0::vs)[k]=x at *;have HC1:=Hi (HCMP.out x (maxP v0 (vs.take (k - 1))) wr.drew);have hcv:BV.cmpV x.k x.i x.s (maxP v0 (vs.take (k - 1))).k (maxP v0 (vs.take (k - 1))).i (maxP v0 (vs.take (k - 1))).s=vvC x (maxP v0 (vs.take (k - 1))):=rfl;rw[hcv]at HC1;generalize maxP v0 (vs.take (k - 1))=m at *;generalize vvC x m=cv at *;obtain⟨xk,xi,xs⟩:=x;obtain⟨mk,mi,ms⟩:=m;dsimp only at HC1 i0 i1 i2 y0 y1 y2 e0 e1 e2;have E0:=Hi e0;have E1:=Hi e1;have E2:=Hi e2;have HNX1:=Hi hnx;clear hnx e0 e1 e2 hkx HNX HC HCMP hcv;go_wp2_with fail
   go_region_law (first
    | (go_simp;go_at_call 72;refine HC1.out.mono ?_;rintro q w3 ⟨rfl,b3⟩))
   all_goals
    have HB3:=Hi (bthen HB.out (bthen (bel_drewM wr) b3));have Q13:=Hi (Q1.out.later (bthen (bel_drewM wr) b3));have Q23:=Hi (Q2.out.later (bthen (bel_drewM wr) b3));have i0':=(HB3.out.cell (p:=⟨ba,_,none⟩) HLT.out).trans E0.out;have i1':=(HB3.out.cell (p:=⟨ba,_,none⟩) HLT.out).trans E1.out;have i2':=(HB3.out.cell (p:=⟨ba,_,none⟩) HLT.out).trans E2.out;obtain⟨y0',y1',y2'⟩:=Q23.out.cells;obtain⟨f0,f1,f2⟩:=Q23.out.free;dsimp only at y0' y1' y2';clear i0 i1 i2 y0 y1 y2 b3 HB Q1 Q2
    by_cases h0:0 < cv
    ·have hnx:=HNX1.out
     rw[if_pos h0]at hnx;obtain⟨W6,hW6⟩:∃ W6:World,W6=((w3.setCell ⟨W1.heap.size,0,none⟩ (.int .i64 xk)).setCell ⟨W1.heap.size,1,none⟩ (.int .i64 xi)).setCell ⟨W1.heap.size,2,none⟩ (.string xs):=⟨_,rfl⟩;have HB6:Hid (Below w.heap.size w W6):=Hi (by rw[hW6];exact set3k HB3.out (by have:=Z1.out;omega) 0 1 2 _ _ _)
     have Q26:Hid (VBox W6 W1.heap.size (maxP v0 (vs.take (k+1 - 1)))):=Hi (by rw[Nat.add_sub_cancel,hnx,hW6];exact vsetM Q23.out xk xi xs)
     have Q16:Hid (VBox W6 w.heap.size zW):=Hi (by rw[hW6];exact vkeepM Q13.out (by have:=Z1.out;omega) _ _ _)
     have HW6:=Hi hW6;clear hW6 hnx HNX1 Q13 Q23 HB3
     go_wp2_with (rw[←HW6.out])
     go_roundw
     case rel=>exact⟨k+1,by omega,by omega,by go_num,Q16,Q26,HB6⟩
     case measure=>simp[intOf];omega
    ·have hnx:=HNX1.out
     rw[if_neg h0]at hnx;have Q26:Hid (VBox w3 W1.heap.size (maxP v0 (vs.take (k+1 - 1)))):=Hi (by rw[Nat.add_sub_cancel,hnx];exact Q23.out)
     clear hnx HNX1 Q23;go_wp2_with fail
     go_roundw
     case rel=>exact⟨k+1,by omega,by omega,by go_num,Q13,Q26,HB3⟩
     case measure=>simp[intOf];omega
  ·obtain rfl:k=n:=by omega
   have Q2':=Q2.out;rw[HALL.out,HR.out]at Q2';obtain⟨y0,y1,y2⟩:=Q2'.cells;obtain⟨g0,g1,g2⟩:=Q1.out.cells;obtain⟨f0,f1,f2⟩:=Q1.out.free;simp only[zW]at g0 g1 g2;dsimp only at y0 y1 y2;clear Q2' Q2 HNX HC HCMP;go_wp2_with fail;exact bodyPost_ret (v:= .agg #[.int .i64 rk,.int .i64 ri,.string rs]) (by simp[results,Tryz.results132,go_sem,g0,g1,g2]) rfl ⟨rfl,set3_new HB.out _ _ _⟩
def plusB:ByteArray:=⟨#[43]⟩
def sumP(m:BV.V):List BV.V→Ans
 | []=>(0,m)
 | v::l=>if SC.arE plusB m v=0 then sumP (SC.arV plusB m v) l else (SC.arE plusB m v,zW)
theorem sum_any(vs:List BV.V)(w:World)(A:Option Addr)(c:Nat)(hr:BV.RowAt w w.heap.size A vs)(hl:vs.length≤1000000)(hi:∀ v∈vs,SC.In64 v.i) :
  Calls Tryz.prog 133 #[.slice A vs.length c] w fun q w'=>q = .returned (vA (sumP ⟨2,0,⟨#[]⟩⟩ vs))∧Below w.heap.size w w':=by
 obtain⟨n,hn⟩:∃ n,n=vs.length:=⟨_,rfl⟩;have HN:=Hi hn;have HR:=Hi hr;have HI:=Hi hi;obtain⟨R,hR⟩:∃ R,sumP ⟨2,0,⟨#[]⟩⟩ vs=R:=⟨_,rfl⟩;have HS:Hid (sumP ⟨2,0,⟨#[]⟩⟩ (vs.drop 0)=R):=Hi hR;rw[hR,←hn];rw[←hn]at hl;unfold vA;obtain⟨rer,rk,ri,rs⟩:=R;dsimp only;obtain⟨W1,hW1⟩:∃ W1:World,W1=w.alloc (.cells #[.int .i64 0,.int .i64 0,.string ⟨#[]⟩] 26):=⟨_,rfl⟩;have b1:Below w.heap.size w W1:=by rw[hW1];exact(Below.refl _ _).alloc (Nat.le_refl _) _
 have q1:VBox W1 w.heap.size zW:=by rw[hW1];exact VBox.made w zW
 have HQ1:=Hi q1;have HB1:=Hi b1;have HW1:=Hi hW1;have HNM:=Hi (number_any 0 W1);clear hn hr hi hR hW1 b1 q1;go_enter Tryz.func133,Tryz.ntmps133
 go_wp2_with (rw[←HW1.out])
 refine(HNM.out).mono ?_;rintro q w2 ⟨rfl,b2⟩;obtain⟨W3,hW3⟩:∃ W3:World,W3=w2.alloc (.cells #[.int .i64 2,.int .i64 0,.string ⟨#[]⟩] 26):=⟨_,rfl⟩;have b3:Below w2.heap.size w2 W3:=by rw[hW3];exact(Below.refl _ _).alloc (Nat.le_refl _) _
 have q3:VBox W3 w2.heap.size ⟨2,0,⟨#[]⟩⟩:=by rw[hW3];exact VBox.made w2 ⟨2,0,⟨#[]⟩⟩
 have HQ3:=Hi q3;have HQ13:=Hi (HQ1.out.later (bthen b2 b3));have HB3:=Hi (bthen HB1.out (bthen b2 b3));have HW3:=Hi hW3;have HG:Hid (w.heap.size < w2.heap.size):=Hi (Nat.lt_of_lt_of_le HQ1.out.lt b2.size);clear hW3 q3 b3 b2 HNM HQ1 HB1
 go_wp2_with (rw[←HW3.out])
 go_loopw [12] (fun iv wr=>∃ (k:Nat) (m:BV.V),k≤n∧iv = .int .i64 k∧Hid (sumP m (vs.drop k)=(rer,⟨rk,ri,rs⟩))∧Hid (SC.In64 m.i)∧Hid (VBox wr w.heap.size zW)∧Hid (VBox wr w2.heap.size m)∧Hid (Below w.heap.size w wr)) (fun iv _=>n - (intOf iv).toNat)
 case atStart=>exact⟨0,_,Nat.zero_le _,rfl,HS,Hi (by show(-9223372036854775808:Int)≤0∧(0:Int)≤9223372036854775807;omega),HQ13,HQ3,HB3⟩
 case round =>
  obtain⟨k,m,hk,rfl,HSk,HIm,Q1,Q2,HB⟩:=hrel
  by_cases hlt:k < n
  ·have hkx:k < vs.length:=by rw[←HN.out];exact hlt
   obtain⟨ba,off,rfl,hlb,hc⟩:=HR.out (by omega)
   obtain⟨e0,e1,e2⟩:=hc k hkx;have i0:=(HB.out.cell (p:=⟨ba,_,none⟩) hlb).trans e0;have i1:=(HB.out.cell (p:=⟨ba,_,none⟩) hlb).trans e1;have i2:=(HB.out.cell (p:=⟨ba,_,none⟩) hlb).trans e2;have hix:=HI.out vs[k] (List.getElem_mem hkx);have hsk:=HSk.out;rw[List.drop_eq_getElem_cons hkx]at hsk;generalize vs[k]=x at *;obtain⟨W5,hW5⟩:∃ W5:World,W5=wr.alloc (.cells #[.int .i64 x.k,.int .i64 x.i,.string x.s] 26):=⟨_,rfl⟩;have b5:Below wr.heap.size wr W5:=by rw[hW5];exact(Below.refl _ _).alloc (Nat.le_refl _) _
   have q5:VBox W5 wr.heap.size x:=by rw[hW5];exact VBox.made wr x
   obtain⟨y0,y1,y2⟩:=q5.cells;obtain⟨a0,a1,a2⟩:=(Q2.out.later b5).cells;have HAR:=Hi (SC.arith_any plusB m x W5 HIm.out hix);have HIN:Hid (SC.In64 (SC.arV plusB m x).i):=Hi (sm_ar 1 plusB m x).1;simp only[sumP]at hsk;generalize SC.arE plusB m x=er at *;generalize SC.arV plusB m x=mm at *;have HSK:=Hi hsk;have Q15:=Hi (Q1.out.later b5);have Q25:=Hi (Q2.out.later b5);have HB5:=Hi (bthen HB.out b5);have HW5:=Hi hW5;obtain⟨xk,xi,xs⟩:=x;obtain⟨mk,mi,ms⟩:=m;obtain⟨nk,ni,ns⟩:=mm;unfold plusB at HAR;dsimp only at HAR i0 i1 i2 y0 y1 y2 a0 a1 a2;clear hsk hc e0 e1 e2 hix hW5 b5 q5 HSk HIm Q1 Q2 HB hkx HR HI
   go_wp2_with (rw[←HW5.out])
   refine(HAR.out).mono ?_;rintro q w6 ⟨rfl,b6⟩;obtain⟨W7,hW7⟩:∃ W7:World,W7=w6.alloc (.cells #[.int .i64 nk,.int .i64 ni,.string ns] 26):=⟨_,rfl⟩;have b7:Below w6.heap.size w6 W7:=by rw[hW7];exact(Below.refl _ _).alloc (Nat.le_refl _) _
   have q7:VBox W7 w6.heap.size ⟨nk,ni,ns⟩:=by rw[hW7];exact VBox.made w6 ⟨nk,ni,ns⟩
   obtain⟨z0,z1,z2⟩:=q7.cells;dsimp only at z0 z1 z2;have Q17:=Hi (Q15.out.later (bthen b6 b7));have Q27:=Hi (Q25.out.later (bthen b6 b7));have HB7:=Hi (bthen HB5.out (bthen b6 b7));have HW7:=Hi hW7;clear hW7 b6 b7 q7 Q15 Q25 HB5 HAR i0 i1 i2 y0 y1 y2 a0 a1 a2 HW5
   by_cases h0:er=0
   ·subst h0
    have hsk:=HSK.out;rw[if_pos rfl]at hsk;have HSN:=Hi hsk;obtain⟨a0,a1,a2⟩:=Q27.out.cells;obtain⟨f0,f1,f2⟩:=Q27.out.free;obtain⟨W8,hW8⟩:∃ W8:World,W8=((W7.setCell ⟨w2.heap.size,0,none⟩ (.int .i64 nk)).setCell ⟨w2.heap.size,1,none⟩ (.int .i64 ni)).setCell ⟨w2.heap.size,2,none⟩ (.string ns):=⟨_,rfl⟩;have HB8:Hid (Below w.heap.size w W8):=Hi (by rw[hW8];exact set3k HB7.out (by have:=HG.out;omega) 0 1 2 _ _ _)
    have Q28:Hid (VBox W8 w2.heap.size ⟨nk,ni,ns⟩):=Hi (by rw[hW8];exact vsetM Q27.out nk ni ns)
    have Q18:Hid (VBox W8 w.heap.size zW):=Hi (by rw[hW8];exact vkeepM Q17.out (by have:=HG.out;omega) _ _ _)
    have HW8:=Hi hW8;clear hsk hW8 HSK Q17 Q27 HB7
    go_wp2_with (first | (rw[←HW8.out]) | (rw[←HW7.out]))
    go_roundw
    case rel=>exact⟨k+1,_,by omega,by go_num,HSN,HIN,Q18,Q28,HB8⟩
    case measure=>simp[intOf];omega
   ·have e0:(er != 0)=true:=by simpa using h0
    have hsk:=HSK.out;rw[if_neg h0]at hsk
    injection hsk with h1 h2
    unfold zW at h2
    injection h2 with h3 h4 h5
    subst h1 h3 h4 h5;obtain⟨g0,g1,g2⟩:=Q17.out.cells;obtain⟨f0,f1,f2⟩:=Q17.out.free;simp only[zW]at g0 g1 g2;clear HSK Q17 Q27 z0 z1 z2
    go_wp2_with (rw[←HW7.out])
    exact bodyPost_ret (v:= .tuple #[.agg #[.int .i64 0,.int .i64 0,.string ⟨#[]⟩],.int .i64 er]) (by simp[results,Tryz.results133,go_sem,g0,g1,g2]) rfl ⟨rfl,set3_at HB7.out (by omega) _ _ _⟩
  ·obtain rfl:k=n:=by omega
   have hsk:=HSk.out;rw[HN.out,List.drop_length]at hsk
   injection hsk with h1 h2
   subst h1 h2;obtain⟨y0,y1,y2⟩:=Q2.out.cells;obtain⟨g0,g1,g2⟩:=Q1.out.cells;obtain⟨f0,f1,f2⟩:=Q1.out.free;simp only[zW]at g0 g1 g2;dsimp only at y0 y1 y2;clear HSk Q1 Q2 HR HI HN;go_wp2_with fail;exact bodyPost_ret (v:= .tuple #[.agg #[.int .i64 rk,.int .i64 ri,.string rs],.int .i64 0]) (by simp[results,Tryz.results133,go_sem,g0,g1,g2]) rfl ⟨rfl,set3_at HB.out (by omega) _ _ _⟩
def isCount(s:ByteArray):Bool:=s.toList == [99,111,117,110,116]
def isMin(s:ByteArray):Bool:=s.toList == [109,105,110]
def isMax(s:ByteArray):Bool:=s.toList == [109,97,120]
def aggP(s:ByteArray)(vs:List BV.V):Ans:=if isCount s then (0,⟨2,(vs.length:Int),⟨#[]⟩⟩)else match vs with
 | []=>(0,zW)
 | v::l=>if isMin s then (0,minP v l)else if isMax s then (0,maxP v l)else sumP ⟨2,0,⟨#[]⟩⟩ (v::l)
theorem aggregate_any(s:ByteArray)(vs:List BV.V)(w:World)(A:Option Addr)(c:Nat)(hr:BV.RowAt w w.heap.size A vs)(hl:vs.length≤1000000)(hi:∀ v∈vs,SC.In64 v.i) :
  Calls Tryz.prog 77 #[.string s,.slice A vs.length c] w fun q w'=>q = .returned (vA (aggP s vs))∧Below w.heap.size w w':=by
 obtain⟨W1,hW1⟩:∃ W1:World,W1=w.alloc (.cells #[.int .i64 0,.int .i64 0,.string ⟨#[]⟩] 26):=⟨_,rfl⟩;have b1:Below w.heap.size w W1:=by rw[hW1];exact(Below.refl _ _).alloc (Nat.le_refl _) _
 have q1:VBox W1 w.heap.size zW:=by rw[hW1];exact VBox.made w zW
 have HQ1:=Hi q1;have HB1:=Hi b1;have HW1:=Hi hW1;have HR1:=Hi (hr.later b1);have HI:=Hi hi;have hc:(s.toList == [99,111,117,110,116])=isCount s:=rfl;have hm:(s.toList == [109,105,110])=isMin s:=rfl;have hx:(s.toList == [109,97,120])=isMax s:=rfl;cases h1:isCount s
 ·cases vs with
  | nil =>
   have ha:aggP s []=(0,zW):=by simp[aggP,h1]
   rw[ha];rw[h1]at hc;obtain⟨g0,g1,g2⟩:=q1.cells;obtain⟨f0,f1,f2⟩:=q1.free;simp only[zW]at g0 g1 g2;clear ha h1 hm hx HR1 HI hr hi hl hW1 b1 q1 HQ1;simp only[vA,zW,List.length_nil];go_enter Tryz.func77,Tryz.ntmps77
   go_wp2_with (rw[←HW1.out])
   exact bodyPost_ret (v:= .tuple #[.agg #[.int .i64 0,.int .i64 0,.string ⟨#[]⟩],.int .i64 0]) (by simp[results,Tryz.results77,go_sem,g0,g1,g2]) rfl ⟨rfl,set3_new HB1.out _ _ _⟩
  | cons v l =>
   have ha:aggP s (v::l)=if isMin s then (0,minP v l)else if isMax s then (0,maxP v l)else sumP ⟨2,0,⟨#[]⟩⟩ (v::l):=by simp[aggP,h1]
   rw[ha];rw[h1]at hc;have hll:l.length≤1000000:=by have:(v::l).length=l.length+1:=rfl;omega
   obtain⟨n,hn⟩:∃ n,(v::l).length=n:=⟨_,rfl⟩;have hn0:¬(n:Int)=0:=by rw[←hn];simp only[List.length_cons];omega
   have hn1:n≠0:=by omega
   have HMN:=Hi (minF_any v l W1 A c HR1.out hll);have HMX:=Hi (maxF_any v l W1 A c HR1.out hll);have HSM:=Hi (sum_any (v::l) W1 A c HR1.out hl HI.out);rw[hn]at HMN HMX HSM ⊢;clear ha h1 HR1 HI hr hi hl hll hn hW1 b1 q1;cases h2:isMin s
   ·cases h3:isMax s
    ·rw[h2]at hm
     rw[h3]at hx;rw[if_neg (by decide),if_neg (by decide)]
     obtain⟨R,hR⟩:∃ R,sumP ⟨2,0,⟨#[]⟩⟩ (v::l)=R:=⟨_,rfl⟩;rw[hR]at HSM ⊢;obtain⟨er,uk,ui,us⟩:=R;unfold vA at HSM ⊢;dsimp only at HSM ⊢;clear hR HMN HMX h2 h3;go_enter Tryz.func77,Tryz.ntmps77
     go_wp2_with (rw[←HW1.out])
     refine(HSM.out).mono ?_;rintro q w2 ⟨rfl,b2⟩;have Q2:=HQ1.out.later b2;obtain⟨g0,g1,g2⟩:=Q2.cells;obtain⟨f0,f1,f2⟩:=Q2.free;simp only[zW]at g0 g1 g2;have HB2:=Hi (bthen HB1.out b2);clear b2 Q2 HSM;go_wp2_with fail;exact bodyPost_ret (v:= .tuple #[.agg #[.int .i64 uk,.int .i64 ui,.string us],.int .i64 er]) (by simp[results,Tryz.results77,go_sem,g0,g1,g2]) rfl ⟨rfl,set3_new HB2.out _ _ _⟩
    ·rw[h2]at hm
     rw[h3]at hx;rw[if_neg (by decide),if_pos rfl]
     obtain⟨R,hR⟩:∃ R,maxP v l=R:=⟨_,rfl⟩;rw[hR]at HMX ⊢;obtain⟨uk,ui,us⟩:=R;unfold vA;unfold vV at HMX;dsimp only at HMX ⊢;clear hR HMN HSM h2 h3;go_enter Tryz.func77,Tryz.ntmps77
     go_wp2_with (rw[←HW1.out])
     refine(HMX.out).mono ?_;rintro q w2 ⟨rfl,b2⟩;have Q2:=HQ1.out.later b2;obtain⟨g0,g1,g2⟩:=Q2.cells;obtain⟨f0,f1,f2⟩:=Q2.free;simp only[zW]at g0 g1 g2;have HB2:=Hi (bthen HB1.out b2);clear b2 Q2 HMX;go_wp2_with fail;exact bodyPost_ret (v:= .tuple #[.agg #[.int .i64 uk,.int .i64 ui,.string us],.int .i64 0]) (by simp[results,Tryz.results77,go_sem,g0,g1,g2]) rfl ⟨rfl,set3_new HB2.out _ _ _⟩
   ·rw[h2]at hm
    rw[if_pos rfl];obtain⟨R,hR⟩:∃ R,minP v l=R:=⟨_,rfl⟩;rw[hR]at HMN ⊢;obtain⟨uk,ui,us⟩:=R;unfold vA;unfold vV at HMN;dsimp only at HMN ⊢;clear hR HMX HSM h2 hx;go_enter Tryz.func77,Tryz.ntmps77
    go_wp2_with (rw[←HW1.out])
    refine(HMN.out).mono ?_;rintro q w2 ⟨rfl,b2⟩;have Q2:=HQ1.out.later b2;obtain⟨g0,g1,g2⟩:=Q2.cells;obtain⟨f0,f1,f2⟩:=Q2.free;simp only[zW]at g0 g1 g2;have HB2:=Hi (bthen HB1.out b2);clear b2 Q2 HMN;go_wp2_with fail;exact bodyPost_ret (v:= .tuple #[.agg #[.int .i64 uk,.int .i64 ui,.string us],.int .i64 0]) (by simp[results,Tryz.results77,go_sem,g0,g1,g2]) rfl ⟨rfl,set3_new HB2.out _ _ _⟩
 ·have ha:aggP s vs=(0,⟨2,(vs.length:Int),⟨#[]⟩⟩):=by simp[aggP,h1]
  rw[ha];rw[h1]at hc;have HNM:=Hi (number_any vs.length W1);unfold vA;dsimp only;generalize vs.length=n at *;clear ha h1 hm hx HR1 HI hr hi hW1 b1 q1;go_enter Tryz.func77,Tryz.ntmps77
  go_wp2_with (rw[←HW1.out])
  refine(HNM.out).mono ?_;rintro q w2 ⟨rfl,b2⟩;have Q2:=HQ1.out.later b2;obtain⟨g0,g1,g2⟩:=Q2.cells;obtain⟨f0,f1,f2⟩:=Q2.free;simp only[zW]at g0 g1 g2;have HB2:=Hi (bthen HB1.out b2);clear b2 Q2 HNM;go_wp2_with fail;exact bodyPost_ret (v:= .tuple #[.agg #[.int .i64 2,.int .i64 n,.string ⟨#[]⟩],.int .i64 0]) (by simp[results,Tryz.results77,go_sem,g0,g1,g2]) rfl ⟨rfl,set3_new HB2.out _ _ _⟩
theorem row_zL(n:Nat)(h:n≤2000)(w:World):(Instr.makeSlice 39 (.int .i64 (n:Int)) (.int .i64 (n:Int))).run Tryz.prog w = .ok (.slice (some ⟨w.heap.size,0,none⟩) n n) (w.alloc (.cells (BV.flat (List.replicate n zW)).toArray 26)):=made_zV n h w
theorem ownV_mono{w:World}{B B':Nat}{v:Value}{xs:List BV.V}(h:OwnV w B v xs)(hB:B'≤B):OwnV w B' v xs:=World.ownsRow.mono h hB
theorem told_any(es:List Ag)(rs:List BV.R)(kv:Value)(S:Nat→Prop)(w:World)(V B:Option Addr)(vc d:Nat)(hmem:AgsAt S w B es)(hv:BV.RowsAt w w.heap.size V rs)(hle:es.length=rs.length)(hl:es.length≤2000)(hi:∀ r∈rs,r.xs.length≤1000000∧∀ v∈r.xs,SC.In64 v.i) :
  Calls Tryz.prog 52 #[.agg #[kv,.slice V rs.length vc],.slice B es.length d] w (Vals w (List.zipWith (fun(a:Ag) (r:BV.R)=>aggP a.nm r.xs) es rs)):=by
 have HM:=Hi hmem;obtain⟨l,hll⟩:∃ l,List.zipWith (fun(a:Ag) (r:BV.R)=>aggP a.nm r.xs) es rs=l:=⟨_,rfl⟩
 obtain⟨W0,hW0⟩:∃ W0:World,W0=w.alloc (.cells #[kv,.slice V rs.length vc] 90):=⟨_,rfl⟩;have b0:Below w.heap.size w W0:=by rw[hW0];exact(Below.refl _ _).alloc (Nat.le_refl _) _
 have hh0:W0.heap[w.heap.size]? = some (.cells #[kv,.slice V rs.length vc] 90 (0,0)):=by rw[hW0];exact heap_alloc_new w _
 have hz0:W0.heap.size=w.heap.size+1:=by rw[hW0];simp
 have HH0:=Hi hh0;have HZ0:=Hi hz0;have HW0:=Hi hW0;have RV:=Hi hv;have HIV:=Hi hi;have HLE:=Hi hle;obtain⟨n,hn⟩:∃ n,n=es.length:=⟨_,rfl⟩;have hln:l.length=n:=by rw[←hll,List.length_zipWith,hn];omega
 have HG:Hid (∀ k (hk:k < n),∃ (h1:k < es.length) (h2:k < l.length) (h3:k < rs.length),aggP es[k].nm rs[k].xs=l[k]):=Hi fun k hk=>⟨by omega,by omega,by omega,by subst hll;simp⟩
 have HLN:=Hi hln;have hml:(l.map (·.2)).length=n:=by rw[List.length_map,hln]
 have HML:=Hi hml;have hmk:=row_zL n (by omega) W0
 obtain⟨W1,hW1⟩:∃ W1:World,W1=W0.alloc (.cells (BV.flat (List.replicate n zW)).toArray 26):=⟨_,rfl⟩;have hb1:Below w.heap.size w W1:=by rw[hW1];exact b0.alloc b0.size _
 have hb01:Below W0.heap.size W0 W1:=by rw[hW1];exact(Below.refl _ _).alloc (Nat.le_refl _) _
 have HO1:Hid (OwnV W1 W0.heap.size (.slice (some ⟨W0.heap.size,0,none⟩) n n) ((l.map (·.2)).take 0++List.replicate (n - 0) zW)):=Hi (by rw[hW1];simpa using ownV_made W0 n (by omega))
 rw[←hW1]at hmk;have HB1:=Hi hb1;have HB01:=Hi hb01;rw[hll];rw[←hn]at hl ⊢;rw[←HLE.out,←hn]at hh0 HH0 HW0;rw[←HLE.out,←hn];clear hmem hv hi hll hn hln hml hW0 hW1 hb1 hb01 b0 hh0 hz0 hle;go_enter Tryz.func52,Tryz.ntmps52
 go_wp2_with (rw[←HW0.out])
 go_loopw [16] (fun i wr=>∃ k:Nat,k≤n∧i = .int .i64 k∧Hid (∀ a∈l.take k,a.1=0)∧Hid (OwnV wr W0.heap.size (.slice (some ⟨W0.heap.size,0,none⟩) n n) ((l.map (·.2)).take k++List.replicate (n - k) zW))∧Hid (Below W0.heap.size W0 wr)∧Hid (Below w.heap.size w wr)) (fun i _=>n - (intOf i).toNat)
 case atStart=>exact⟨0,Nat.zero_le _,rfl,Hi (by simp),HO1,HB01,HB1⟩
 case round =>
  obtain⟨k,hk,rfl,HC,HO,HB0,HB⟩:=hrel
  by_cases hlt:k < n
  ·obtain⟨hke,hkl,hkr,hkk⟩:=HG.out k hlt
   obtain⟨g,off,rfl,hg,hl9⟩:=HM.out (by omega)
   obtain⟨A',c'',hcells,hs⟩:=hl9 k hke;have hkz:(k:Int) < (n:Int):=by omega
   obtain⟨i0,i1,i2,i3,i4,i5,i6,i7,i8⟩:=(hcells.later HB.out hg:AgCells wr g (off+k*9) es[k] _);obtain⟨Wa,Wb,hWa,hWb,b1,b2,hz,hb1,hb2⟩:=made9 wr (.string es[k].nm) (.bool es[k].star) (.string (str es[k].e.op)) (.int .i64 es[k].e.v.k) (.int .i64 es[k].e.v.i) (.string (str es[k].e.v.s)) (.string (str es[k].e.tb)) (.string (str es[k].e.nm)) (.slice A' es[k].e.l.length c'');obtain⟨f10,f11,f12,f13,f14,f15,f16,f17,f18⟩:=b1.free;obtain⟨y10,y11,y12,y13,y14,y15,y16,y17,y18⟩:=b2.cells;obtain⟨p10,p11,p12,p13,p14,p15,p16,p17,p18⟩:=b1.cells;obtain⟨bv,ov,hVV,hbv,hcv⟩:=RV.out.1 (by omega)
   subst hVV;have hBb:=bthen HB.out hb2;have x1:=(hBb.cell (p:=⟨bv,_,none⟩) hbv).trans (hcv k hkr);unfold BV.R.val at x1;have hx2:=RV.out.2 rs[k] (List.getElem_mem hkr);obtain⟨hx3,hx4⟩:=HIV.out rs[k] (List.getElem_mem hkr)
   have hg0:Wb.cell? ⟨w.heap.size,1,none⟩=some (.slice (some ⟨bv,ov,none⟩) n vc):=by
    have h:=((bthen HB0.out hb2).block w.heap.size (by have:=HZ0.out;omega)).trans HH0.out
    rw[Lib.cell_of_heap h];rfl
   have HCE:=Hi (fun W (hb:Below Wb.heap.size Wb W)=>aggregate_any es[k].nm rs[k].xs W rs[k].A rs[k].c (hx2.later (bthen hBb hb)) hx3 hx4)
   rw[hkk]at HCE;have HTN:Hid (l.take (k+1)=l.take k ++ [l[k]]):=Hi (take_next hkl);have hkm:k < (l.map (·.2)).length:=by rw[HML.out];exact hlt
   have HPN:=Hi (putV_next (n:=n) hkm HML.out.symm);rw[List.getElem_map]at HPN;have HNO:=Hi (fun W (h:¬l[k].1=0) (hb:Below w.heap.size w W)=>vals_no hkl HC.out h hb)
   have HBb:=Hi (bthen HB.out hb2);have HB0b:=Hi (bthen HB0.out hb2);have KP:Hid (∀ w',Below Wb.heap.size Wb w'→(Below Wb.heap.size Wb w'∧w'.cell? ⟨wr.heap.size,0,none⟩=some (.string es[k].nm)∧w'.cell? ⟨w.heap.size,1,none⟩=some (.slice (some ⟨bv,ov,none⟩) n vc)∧w'.cell? ⟨bv,ov+k,none⟩=some (.slice rs[k].A rs[k].xs.length rs[k].c)∧True)):=Hi fun w' hb=>⟨hb,(hb.cell (p:=⟨wr.heap.size,0,none⟩) b2.lt).trans y10,(hb.cell (p:=⟨w.heap.size,1,none⟩) (show w.heap.size < Wb.heap.size by have h1:=HZ0.out;have h2:=(bthen HB0.out hb2).size;omega)).trans hg0,(hb.cell (p:=⟨bv,ov+k,none⟩) (show bv < Wb.heap.size by have h1:=hBb.size;omega)).trans x1,trivial⟩
   have CA1:=Hi (HCE.out Wb.drew (bel_drewM Wb));have CA2:=Hi (HCE.out (Wb.alloc (.cells #[.int .i64 0,.int .i64 0,.string ⟨#[]⟩] 26)).drew (bthen ((Below.refl _ _).alloc (Nat.le_refl _) _) (bel_drewM _)));have HOb:=Hi (HO.out.later hb2);have HWa:=Hi hWa;have HWb:=Hi hWb;unfold vA at CA1 CA2;generalize rs[k].A=xA at *;generalize rs[k].c=xc at *;generalize rs[k].xs.length=xl at *;generalize es[k].nm=bz' at *;generalize es[k].star=st' at *;generalize str es[k].e.op=bo' at *;generalize str es[k].e.tb=bt' at *;generalize str es[k].e.nm=bn' at *;generalize str es[k].e.v.s=bs' at *;generalize es[k].e.v.k=vk' at *;generalize es[k].e.v.i=vi' at *;generalize es[k].e.l.length=ln' at *;generalize l[k]=an at *;obtain⟨er,uk,ui,us⟩:=an;clear hkk hWa hWb hs hl9 hcells b1 b2 hb1 hb2 hz HB HO HB0 HM HG hkl hkm hkr HCE hcv x1 hx2 hx3 hx4 hBb hg0;dsimp only at CA1 CA2 HPN HNO
   go_upto_region 5 with (first | (rw[←HWb.out]) | (rw[←HWa.out]))
   have BB:=Hi (Below.refl Wb.heap.size Wb);have SS:=Hi (KP.out Wb BB.out)
   go_cut [9,10] (fun s9 s10 wx=>∃ g',s9 = .pointer (some ⟨g',0,none⟩)∧s10 = .int .i64 er∧Wb.heap.size≤g'∧Hid (VBox wx g' ⟨uk,ui,us⟩)∧Hid (Below Wb.heap.size Wb wx))
   case first =>
    go_region_held3 (fun w'=>Below Wb.heap.size Wb w'∧w'.cell? ⟨wr.heap.size,0,none⟩=some (.string bz')∧w'.cell? ⟨w.heap.size,1,none⟩=some (.slice (some ⟨bv,ov,none⟩) n vc)∧w'.cell? ⟨bv,ov+k,none⟩=some (.slice xA xl xc)∧True) ((refine KP.out _ ?_;(repeat(first | with_reducible exact BB.out | with_reducible refine bel_drewE ?_ | with_reducible refine bel_allocE ?_ _ | (with_reducible refine bel_setE ?_ ?_ _;focus(first | with_reducible exact VG.out | with_reducible exact BB.out.size | with_reducible exact Nat.le_refl _)))))) ((first
     |(go_at_call 77;first
      | (with_reducible refine(CA1.out).mono ?_;rintro r w8 ⟨rfl,b8⟩;have BB:=Hi (bthen (bel_drewM Wb) b8);clear b8)
      | (with_reducible refine(CA2.out).mono ?_;rintro r w8 ⟨rfl,b8⟩;have VT:=Hi (VBox.later (vdrew (raw0 (w:=Wb))) b8);have VG:=Hi (Nat.le_refl Wb.heap.size);have BB:=Hi (bthen (bthen ((Below.refl Wb.heap.size Wb).alloc (Nat.le_refl _) _) (bel_drewM _)) b8);obtain⟨x0,x1,x2⟩:=VT.out.cells;obtain⟨y0,y1,y2⟩:=VT.out.free;(try simp only[SC.zV]at x0 x1 x2);clear b8))))
    all_goals (go_wp2_with fail;go_meet;first | exact⟨_,rfl,rfl,BB.out.size,vnewE _ uk ui us,bel_allocE BB.out _⟩ | exact⟨_,rfl,rfl,VG.out,vset VT.out uk ui us,SC.Below.set3 BB.out VG.out _ _ _⟩)
   case rest =>
   obtain⟨g5,rfl,rfl,hg5,hv5,hb5⟩:=hcut;obtain⟨W4,rfl⟩:∃ W4:World,W4=wc:=⟨_,rfl⟩;have b4:=hb5.out;have v4:=hv5.out;obtain⟨m0,m1,m2⟩:=v4.cells;have HB4:=Hi (bthen HBb.out b4);have HB04:=Hi (bthen HB0b.out b4);have HO4:=Hi (HOb.out.later b4);dsimp only at m0 m1 m2;clear b4 v4 hg5 hv5 hb5 SS KP BB CA1 CA2 HB0b HBb HOb y10 y11 y12 y13 y14 y15 y16 y17 y18 f10 f11 f12 f13 f14 f15 f16 f17 f18 p10 p11 p12 p13 p14 p15 p16 p17 p18 HWa HWb i0 i1 i2 i3 i4 i5 i6 i7 i8
   by_cases h0:er=0
   ·subst h0
    have hlen:k < ((l.map (·.2)).take k++List.replicate (n - k) zW).length:=by rw[List.length_append,List.length_take,List.length_replicate,HML.out];omega
    obtain⟨q0,q1,q2⟩:=ownV_cells HO4.out k hlen;have fr0:=ownV_free HO4.out (k*3);have fr1:=ownV_free HO4.out (k*3+1);have fr2:=ownV_free HO4.out (k*3+2);have h6:=ownV_set HO4.out k ⟨uk,ui,us⟩ hlen;rw[HPN.out]at h6;have HO6:=Hi h6;have HB6:=Hi (set3k HB4.out (show w.heap.size≤W0.heap.size by have:=HZ0.out;omega) (k*3) (k*3+1) (k*3+2) (.int .i64 uk) (.int .i64 ui) (.string us))
    have HB06:=Hi (set3k HB04.out (Nat.le_refl W0.heap.size) (k*3) (k*3+1) (k*3+2) (.int .i64 uk) (.int .i64 ui) (.string us))
    have HC':Hid (∀ a∈l.take (k+1),a.1=0):=by
     rw[HTN.out];refine Hi fun a h => ?_
     rcases List.mem_append.1 h with h | h
     ·exact HC.out a h
     ·rw[List.mem_singleton]at h
      rw[h]
    generalize ((l.map (·.2)).take k++List.replicate (n - k) zW)[k]=ov at *;clear h6 HC HTN HPN HNO hlen HO4 HB4;go_wp2_with fail
    go_roundw
    case rel=>exact⟨k+1,by omega,by go_num,HC',HO6,HB06,HB6⟩
    case measure=>simp[intOf];omega
   ·have e0:(er != 0)=true:=by simpa using h0
    have HFIN:=Hi (HNO.out W4 h0 HB4.out);clear HC HTN HPN HNO HO4 HB4;go_wp2_with fail
    go_ret2
    exact HFIN.out
  ·obtain rfl:k=n:=by omega
   have ho:=HO.out;rw[Nat.sub_self,List.replicate_zero,List.append_nil,List.take_of_length_le (by rw[HML.out];exact Nat.le_refl _)]at ho
   have hc:=HC.out;rw[List.take_of_length_le (by rw[HLN.out];exact Nat.le_refl _)]at hc
   have HFIN:=Hi (vals_yes hc (ownV_mono ho (show w.heap.size≤W0.heap.size by have:=HZ0.out;omega)) HB.out)
   clear ho hc HO HC HM HG;go_wp2_with fail
   go_ret2
   exact HFIN.out
end Go.Proofs.YtcicpjgnpcnnmaaGreatDoor
