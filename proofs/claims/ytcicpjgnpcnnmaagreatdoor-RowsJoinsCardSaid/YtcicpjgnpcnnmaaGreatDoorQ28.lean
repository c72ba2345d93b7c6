import Derived.Test.YtcicpjgnpcnnmaaGreatDoorQ26
import Derived.Maps.AppendAt
set_option maxRecDepth 100000
set_option maxHeartbeats 2000000
set_option linter.unusedSimpArgs false
set_option linter.unusedVariables false
namespace Go.Proofs.YtcicpjgnpcnnmaaGreatDoor
open Go.RowKit
theorem nmd_sn{W:Int}(e:E):e.light=true→e.nok W=true→e.nmd.sn=true:=by
 induction e using E.ind with
 | h o v t n l ih =>
  intro hl hn;simp only[E.light,Bool.and_eq_true,decide_eq_true_eq]at hl;rw[E.nok]at hn
  by_cases h1:o=wCol∨o=wStar∨o=wCall∧aggB n=true
  ·rw[if_pos h1]at hn
   cases hn
  rw[if_neg h1]at hn;rw[E.nmd]
  by_cases h2:o=wAt
  ·rw[if_pos h2];rfl
  rw[if_neg h2]at hn ⊢;simp only[E.sn,Bool.and_eq_true,decide_eq_true_eq];refine⟨⟨fun h=>absurd (.inl h) h1,by omega⟩,?_⟩
  rw[nmdL_map,snL_iff];intro y hy;obtain⟨x,hx,rfl⟩:=List.mem_map.1 hy
  have hll:∀ m:List E,E.lightL m=true→∀ x∈m,x.light=true:=by
   intro m
   induction m with
   | nil=>intro _ x hx;cases hx
   | cons a m ihm =>
    intro h x hx;simp only[E.lightL,Bool.and_eq_true]at h;rcases List.mem_cons.1 hx with rfl | hx
    ·exact h.1
    ·exact ihm h.2 x hx
  exact ih x hx (hll l hl.2 x hx) (nokL_iff.1 hn x hx)
theorem nmd_size(e:E):e.nmd.size≤e.size:=by
 induction e using E.ind with
 | h o v t n l ih =>
  rw[E.nmd]
  by_cases h2:o=wAt
  ·rw[if_pos h2]
   show 1≤_
   simp only[E.size]
   omega
  rw[if_neg h2];simp only[E.size]
  have hl:∀ m:List E,(∀ x∈m,x.nmd.size≤x.size)→E.sizeL (E.nmdL m)≤E.sizeL m:=by
   intro m
   induction m with
   | nil=>intro _;exact Nat.le_refl _
   | cons a m ihm =>
    intro h;have h1:=h a (by simp)
    have h2:=ihm fun x hx=>h x (by simp[hx])
    simp only[E.nmdL,E.sizeL]
    omega
  have:=hl l ih
  omega
theorem chk_named(W:Int)(e:E):(if e.nok W=true then chkE e.nmd else 1)=chkW W e:=by
 have h:=nmd_may W e;unfold chkE chkW
 by_cases hn:e.nok W=true
 ·rw[if_pos hn]
  rw[hn,Bool.true_and]at h;rw[h]
  by_cases hg:e.good W=true
  ·rw[nmd_deep W e hg]
  ·rw[if_neg hg,if_neg hg]
 ·have hn':e.nok W=false:=by simpa using hn
  rw[hn',Bool.false_and]at h;rw[if_neg hn,←h]
  rfl
theorem rck_any(W:Int)(e:E)(x:Value)(S:Nat→Prop)(w:World)(hx:EAt S w e x)(hsz:e.size≤100000)(hl:e.light=true):Calls Tryz.prog 32 #[x,.int .i64 W] w fun q w'=>q = .returned (.int .i64 (chkW W e))∧Below w.heap.size w w':=by
 obtain⟨s0,i1,i2,s3,s4,s5,A,n,c,rfl⟩:=hx.agg;obtain⟨W1,hW1,q1,z1,r1⟩:=box7 w (.string s0) (.int .i64 i1) (.int .i64 i2) (.string s3) (.string s4) (.string s5) (.slice A n c);have HN:=Hi (named_any W e _ S W1 (hx.later r1) hsz)
 have HK:Hid (e.nok W=true→∀ A c W2,Sub (fun b=>W1.heap.size≤b) W2 e.nmd A c→Calls Tryz.prog 58 #[eVal e.nmd.op e.nmd.v e.nmd.tb e.nmd.nm (.slice A e.nmd.l.length c)] W2 fun q w'=>q = .returned (.int .i64 (chkW W e))∧Below W2.heap.size W2 w'):=Hi fun hn A c W2 hs=>by
  have h1:=rCheck_any e.nmd _ _ W2 ⟨A,c,rfl,hs⟩ (nmd_sn e hl hn) (by have:=nmd_size e;have:=deep_sizeE e.nmd;omega)
  have h2:=chk_named W e;rw[if_pos hn]at h2;rw[h2]at h1;exact h1
 have HF:Hid (e.nok W=false→chkW W e=1):=Hi fun hn=>by
  have h2:=chk_named W e;rw[if_neg (by rw[hn];decide)]at h2
  exact h2.symm
 have HB:=Hi r1;have HW1:=Hi hW1;obtain⟨a0,a1,a2,a3,a4,a5,a6⟩:=q1.cells;generalize chkW W e=R at *;clear hx hW1 q1 z1 r1 hsz hl;go_enter Tryz.func32,Tryz.ntmps32
 go_wp2_with (rw[←HW1.out])
 refine(HN.out).mono ?_;rintro r w2 ⟨b2,hcase⟩;have HB2:=Hi (bthen HB.out b2);clear b2 HN HW1 a0 a1 a2 a3 a4 a5 a6;rcases hcase with ⟨hn,An,cn,rfl,hs⟩ | ⟨hn,u0,j1,j2,u3,u4,u5,An,nn,cn,rfl⟩
 ·have HC:=Hi (fun W3 (hb:Below w2.heap.size w2 W3)=>HK.out hn An cn W3 (sub_later hs hb))
  clear hs HF HK hn;unfold eVal at *;generalize str e.nmd.op=bo2 at *;generalize str e.nmd.tb=bt2 at *;generalize str e.nmd.nm=bn2 at *;generalize str e.nmd.v.s=bs2 at *;generalize e.nmd.v.k=vk2 at *;generalize e.nmd.v.i=vi2 at *;generalize e.nmd.l.length=ln2 at *;obtain⟨Wc,Wd,hWc,hWd,b1,b2,hz,hb1,hb2⟩:=made7 w2 (.string bo2) (.int .i64 vk2) (.int .i64 vi2) (.string bs2) (.string bt2) (.string bn2) (.slice An ln2 cn);obtain⟨p10,p11,p12,p13,p14,p15,p16⟩:=b1.cells;obtain⟨f10,f11,f12,f13,f14,f15,f16⟩:=b1.free;obtain⟨y10,y11,y12,y13,y14,y15,y16⟩:=b2.cells;have HWc:=Hi hWc;have HWd:=Hi hWd;have HBd:=Hi (bthen HB2.out hb2);have HCd:=Hi (HC.out Wd hb2);clear hWc hWd b1 b2 hz hb1 hb2 HC
  go_wp2_with (first | (rw[←HWd.out]) | (rw[←HWc.out]))
  refine(HCd.out).mono ?_;rintro r w3 ⟨rfl,b3⟩;go_wp2_with fail
  go_ret
  exact⟨rfl,bthen HBd.out b3⟩
 ·have hR:=HF.out hn
  subst hR;obtain⟨Wc,Wd,hWc,hWd,b1,b2,hz,hb1,hb2⟩:=made7 w2 (.string u0) (.int .i64 j1) (.int .i64 j2) (.string u3) (.string u4) (.string u5) (.slice An nn cn);obtain⟨p10,p11,p12,p13,p14,p15,p16⟩:=b1.cells;obtain⟨f10,f11,f12,f13,f14,f15,f16⟩:=b1.free;have HWc:=Hi hWc;have HWd:=Hi hWd;have HBd:=Hi (bthen HB2.out hb2);clear hWc hWd b1 b2 hz hb1 hb2 HF HK
  go_wp2_with (first | (rw[←HWd.out]) | (rw[←HWc.out]))
  go_ret
  exact⟨rfl,HBd.out⟩
theorem lightL_iff{l:List E}:E.lightL l=true↔∀ x∈l,x.light=true:=by
 induction l with
 | nil=>simp[E.lightL]
 | cons a l ih=>simp[E.lightL,ih]
theorem light_lt(e:E):e.light=true→e.lt=true:=by
 induction e using E.ind with
 | h o v t n l ih =>
  intro h;simp only[E.light,Bool.and_eq_true,decide_eq_true_eq]at h;simp only[E.lt,Bool.and_eq_true,decide_eq_true_eq];exact⟨by omega,ltL_iff.2 fun x hx=>ih x hx (lightL_iff.1 h.2 x hx)⟩
theorem infoV:(Tryz.prog.info? 26).map (fun i=>(i.zero,i.size,i.bytes))=some (some (.agg #[.int .i64 0,.int .i64 0,.string ⟨#[]⟩]),3,32):=by kernel_rfl
theorem infoVp:∃ i,Tryz.prog.info? 26=some i∧i.zero=some (.agg #[.int .i64 0,.int .i64 0,.string ⟨#[]⟩])∧i.size=3∧i.bytes=32:=by
 cases hq:Tryz.prog.info? 26 with
 | none=>have h:=infoV;rw[hq]at h;cases h
 | some i =>
  have h:=infoV;rw[hq]at h;simp only[Option.map_some,Option.some.injEq,Prod.mk.injEq]at h;exact⟨i,rfl,h.1,h.2.1,h.2.2⟩
def OwnV(w:World)(B:Nat)(v:Value)(xs:List BV.V):Prop:=w.ownsRow B 26 3 v xs.length (BV.flat xs)
theorem OwnV.nil(w:World)(B:Nat):OwnV w B (.slice none 0 0) []:=World.ownsRow_nil w B 26 3
theorem OwnV.row{w:World}{B:Nat}{v:Value}{xs:List BV.V}(h:OwnV w B v xs):∃ A c,v = .slice A xs.length c∧xs.length≤c∧c≤maxLen∧BV.RowAt w w.heap.size A xs:=by
 rcases h.2 with ⟨hv,h0⟩ | ⟨g,cap,cur,hv,_,hg,hn,hm,_⟩
 ·exact⟨none,0,by rw[hv,h0],by omega,by decide,fun h=>by omega⟩
 ·exact⟨_,cap,hv,hn,hm,BV.RowAt.of_flat (h.cells (g:=g) (by rw[hv];rfl)) (Array.getElem?_eq_some_iff.1 hg).1⟩
theorem OwnV.shape{w:World}{B:Nat}{v:Value}{xs:List BV.V}(h:OwnV w B v xs):∃ A c,v = .slice A xs.length c∧xs.length≤c:=by
 obtain⟨A,c,hv,hc,-⟩:=h.row;exact⟨A,c,hv,hc⟩
theorem OwnV.later{w w':World}{B:Nat}{v:Value}{xs:List BV.V}(h:OwnV w B v xs)(hb:Below w.heap.size w w'):OwnV w' B v xs :=
 h.kept (row:=none) ⟨hb.os,hb.tape,hb.output,hb.size,fun k hk _=>hb.block k hk⟩ (by cases v.ownBlock <;> simp)
theorem OwnV.alloc{w:World}{B:Nat}{v:Value}{xs:List BV.V}(h:OwnV w B v xs)(o:Obj):OwnV (w.alloc o) B v xs:=h.later ((Below.refl _ _).alloc (Nat.le_refl _) o)
theorem OwnV.block{w:World}{B:Nat}{v:Value}{xs:List BV.V}{k:Nat}(h:OwnV w B v xs)(hk:v.ownBlock=some k):B≤k∧k < w.heap.size:=h.lt k hk
theorem flatV_append(xs ys:List BV.V):BV.flat (xs++ys)=BV.flat xs++BV.flat ys:=by unfold BV.flat;rw[List.flatMap_append]
theorem ownV_app{w:World}{B:Nat}{v:Value}{xs:List BV.V}(t ty:TypeId)(ht:Tryz.prog.underlying t=some (.slice 26))(hown:OwnV w B v xs)(ys:List BV.V)(A:Option Addr)(c:Nat)(hr:BV.RowAt w w.heap.size A ys)(hm:xs.length+ys.length≤10000000)(hB:B≤w.heap.size) :
  ∃ v' w',(Builtin.append_ #[t,t] ty #[v,.slice A ys.length c]).run Tryz.prog w = .ok v' w'∧OwnV w' B v' (xs++ys)∧w.grownBy w' v.ownBlock∧(v'.ownBlock=v.ownBlock∨v'.ownBlock=some w.heap.size):=by
 obtain⟨i0,hi,hz0,hz1,hz2⟩:=infoVp;rcases Nat.eq_zero_or_pos ys.length with h0 | h0
 ·have hx:=List.eq_nil_of_length_eq_zero h0
  subst hx;obtain⟨A',c',rfl,hn⟩:=hown.shape;refine⟨.slice A' xs.length c',w,run_append_nothing (P:=Tryz.prog) w t t ty 26 i0 ht hi A' xs.length c' hn _ ?_,by simpa using hown,?_,Or.inl rfl⟩
  ·cases A with
   | none=>exact Src.ofNil w ht c
   | some a=>exact Src.ofSlice w ht a 0 c [] (by simp) (by intro j u h;simp at h) (by simp)
  ·exact⟨rfl,rfl,rfl,Nat.le_refl _,fun _ _ _=>rfl⟩
 ·obtain⟨b,off,rfl,-,-⟩:=hr h0
  obtain⟨v',w',h1,h2,h3,-,h5⟩:=run_append_own_at (P:=Tryz.prog) w B t ty 26 i0 _ 3 32 ht hi hz0 hz1 hz2 rfl (by decide) v xs.length (BV.flat xs) hown ⟨b,off,none⟩ ys.length c (BV.flat ys) (by rw[BV.flat_len]) hr.flat (BV.flat_one ys) (by unfold maxLen;omega) (by omega) hB
  refine⟨v',w',h1,?_,h3,h5⟩;unfold OwnV;rw[List.length_append,flatV_append];exact h2
theorem ownV_below{w0 w w':World}{B:Nat}{v:Value}{xs:List BV.V}(hb:Below B w0 w)(hown:OwnV w B v xs)(hg:w.grownBy w' v.ownBlock)(hB:B≤w.heap.size):Below B w0 w' :=
 hb.grown hg hB (fun k hk=>(hown.lt k hk).1)
theorem step_append_runV{ops:Array Oper}(w:World){o:Oper}{a:Act}{K:Act→World→Prop}{Q:Exit→Act→World→Prop}{E:Prop}(hgd:o.guard=none)(s x:Operand)(t u:TypeId)
  (ho:o.op = .call { callee:= .builtin .append,args:=#[s,x],argTypes:=#[t,u] })(v y:Value)(hs:a.eval s=v)(hx:a.eval x=y){v':Value}{w':World}
  (hr:(Builtin.append_ #[t,u] o.type #[v,y]).run Tryz.prog w = .ok v' w')(h:K (a.put o.dst v') w'):if Region.wanted o (yielded ops a.tmps)=true then Oper.wp Tryz.prog o a w K Q else E:=by
 have hw:Region.wanted o (yielded ops a.tmps)=true:=by simp[Region.wanted,hgd]
 rw[if_pos hw];unfold Oper.wp execOp;simp only[ho,resolve,invoke,builtin,Sem.run_bind,Sem.run_pure,Result.andThen_ok,List.map_toArray,List.map_cons,List.map_nil,hs,hx,hr];exact h
open SC (HV VBox zero_box Args)
theorem vnewE(w:World)(k i:Int)(s:ByteArray):VBox (w.alloc (.cells #[.int .i64 k,.int .i64 i,.string s] 26)) w.heap.size ⟨k,i,s⟩:=VBox.made w ⟨k,i,s⟩
end Go.Proofs.YtcicpjgnpcnnmaaGreatDoor
