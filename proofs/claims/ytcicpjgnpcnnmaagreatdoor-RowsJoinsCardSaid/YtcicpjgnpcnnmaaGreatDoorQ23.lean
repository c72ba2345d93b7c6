import Derived.Test.YtcicpjgnpcnnmaaGreatDoorQ22
import Derived.Lib.SliceRun
set_option maxRecDepth 100000
set_option maxHeartbeats 2000000
set_option linter.unusedSimpArgs false
set_option linter.unusedVariables false
namespace Go.Proofs.YtcicpjgnpcnnmaaGreatDoor
open Go.RowKit
open SC (HV VBox zero_box Args)
theorem dvCall(g h:Nat)(n:List UInt8)(vs:List BV.V)(w:World)(hA:Args w g vs)(hs:SBox w h (str n))(hm:vs.length≤2000)(hE:SC.Env w)(hf:AllFit vs) :
  Calls Tryz.prog 93 #[.slice (some ⟨g,0,none⟩) vs.length vs.length,.pointer (some ⟨h,0,none⟩)] w fun e w'=>e = .returned (vA (callP n vs))∧Below w.heap.size w w':=by
 have HZ:=Hi (zero_box w);have h1:=hA.later HZ.out.below;have c0:=(hs.later HZ.out.below).cell;have HA:=Hi (call_any n vs g _ h1 hm (hE.later HZ.out.below) hf);generalize callP n vs=an at *;obtain⟨er,uk,ui,us⟩:=an;unfold vA at *;simp only at HA ⊢;clear hA h1 hs hm hE hf;generalize vs.length=k at *;generalize str n=bn at *;go_enter Tryz.func93,Tryz.ntmps93;go_wp2_with fail;refine(HA.out).mono ?_;rintro e w2 ⟨rfl,b2⟩;have P2:=Hi (HZ.out.call b2);obtain⟨g0,g1,g2⟩:=P2.out.box.cells;obtain⟨f0,f1,f2⟩:=P2.out.box.free;simp only[SC.zV]at g0 g1 g2;clear b2 c0;go_wp2_with fail;exact bodyPost_ret (v:= .tuple #[.agg #[.int .i64 uk,.int .i64 ui,.string us],.int .i64 er]) (by simp[results,Tryz.results93,go_sem,g0,g1,g2]) rfl ⟨rfl,set3_new P2.out.below _ _ _⟩
theorem opP_lit(d:Deeds)(n:List UInt8)(v:BV.V)(r vs:List BV.V):opP d wLit n (ofV v) r vs=(0,v):=by rw[opP,if_pos rfl,toV_ofV]
theorem opP_at(d:Deeds)(n:List UInt8)(v:BV.V)(r vs:List BV.V):opP d wAt n (ofV v) r vs=atP r v.i:=by rw[opP,if_neg (by decide),if_pos rfl];rfl
theorem opP_other(d:Deeds){o:List UInt8}(n:List UInt8)(v:Vl)(r vs:List BV.V)(h1:o≠wLit)(h2:o≠wAt):opP d o n v r vs=d o n vs:=by rw[opP,if_neg h1,if_neg h2]
theorem dp_wNeg(n:List UInt8)(vs:List BV.V):deedP wNeg n vs=one1 dNeg vs:=by
 unfold deedP;rw[if_pos rfl]
theorem dp_ar{o:List UInt8}(n:List UInt8)(vs:List BV.V)(h:o∈arOps):deedP o n vs=two2 (fun a b=>(SC.arE (str o) a b,SC.arV (str o) a b)) vs:=by
 unfold deedP;rw[if_neg (by revert h;simp only[arOps,relOps,List.mem_cons,List.not_mem_nil,or_false];rintro(rfl | rfl | rfl | rfl | rfl) <;> decide)]
 rw[if_pos h]
theorem dp_wJoin(n:List UInt8)(vs:List BV.V):deedP wJoin n vs=two2 (fun a b=>(SC.joE a b,SC.joV a b)) vs:=by
 unfold deedP;rw[if_neg (by decide)]
 rw[if_neg (by decide)]
 rw[if_pos rfl]
theorem dp_wCall(n:List UInt8)(vs:List BV.V):deedP wCall n vs=callP n vs:=by
 unfold deedP;rw[if_neg (by decide)]
 rw[if_neg (by decide)]
 rw[if_neg (by decide)]
 rw[if_pos rfl]
theorem dp_wNot(n:List UInt8)(vs:List BV.V):deedP wNot n vs=one1 (fun a=>(LG.ctL [a],LG.notV a)) vs:=by
 unfold deedP;rw[if_neg (by decide)]
 rw[if_neg (by decide)]
 rw[if_neg (by decide)]
 rw[if_neg (by decide)]
 rw[if_pos rfl]
theorem dp_wAnd(n:List UInt8)(vs:List BV.V):deedP wAnd n vs=(LG.ctL vs,LG.decV false vs):=by
 unfold deedP;rw[if_neg (by decide)]
 rw[if_neg (by decide)]
 rw[if_neg (by decide)]
 rw[if_neg (by decide)]
 rw[if_neg (by decide)]
 rw[if_pos rfl]
theorem dp_wOr(n:List UInt8)(vs:List BV.V):deedP wOr n vs=(LG.ctL vs,LG.decV true vs):=by
 unfold deedP;rw[if_neg (by decide)]
 rw[if_neg (by decide)]
 rw[if_neg (by decide)]
 rw[if_neg (by decide)]
 rw[if_neg (by decide)]
 rw[if_neg (by decide)]
 rw[if_pos rfl]
theorem dp_rel{o:List UInt8}(n:List UInt8)(vs:List BV.V)(h:o∈relOps):deedP o n vs=two2 (fun a b=>(LG.relE (str o) a b,LG.relR (str o) a b)) vs:=by
 unfold deedP;rw[if_neg (by revert h;simp only[arOps,relOps,List.mem_cons,List.not_mem_nil,or_false];rintro(rfl | rfl | rfl | rfl | rfl | rfl) <;> decide)]
 rw[if_neg (by revert h;simp only[arOps,relOps,List.mem_cons,List.not_mem_nil,or_false];rintro(rfl | rfl | rfl | rfl | rfl | rfl) <;> decide)]
 rw[if_neg (by revert h;simp only[arOps,relOps,List.mem_cons,List.not_mem_nil,or_false];rintro(rfl | rfl | rfl | rfl | rfl | rfl) <;> decide)]
 rw[if_neg (by revert h;simp only[arOps,relOps,List.mem_cons,List.not_mem_nil,or_false];rintro(rfl | rfl | rfl | rfl | rfl | rfl) <;> decide)]
 rw[if_neg (by revert h;simp only[arOps,relOps,List.mem_cons,List.not_mem_nil,or_false];rintro(rfl | rfl | rfl | rfl | rfl | rfl) <;> decide)]
 rw[if_neg (by revert h;simp only[arOps,relOps,List.mem_cons,List.not_mem_nil,or_false];rintro(rfl | rfl | rfl | rfl | rfl | rfl) <;> decide)]
 rw[if_neg (by revert h;simp only[arOps,relOps,List.mem_cons,List.not_mem_nil,or_false];rintro(rfl | rfl | rfl | rfl | rfl | rfl) <;> decide)]
 rw[if_pos h]
theorem dp_wIsnull(n:List UInt8)(vs:List BV.V):deedP wIsnull n vs=one1 (fun a=>(0,tru (a.k == 0))) vs:=by
 unfold deedP;rw[if_neg (by decide)]
 rw[if_neg (by decide)]
 rw[if_neg (by decide)]
 rw[if_neg (by decide)]
 rw[if_neg (by decide)]
 rw[if_neg (by decide)]
 rw[if_neg (by decide)]
 rw[if_neg (by decide)]
 rw[if_pos rfl]
theorem dp_wNotnull(n:List UInt8)(vs:List BV.V):deedP wNotnull n vs=one1 (fun a=>(0,tru (a.k != 0))) vs:=by
 unfold deedP;rw[if_neg (by decide)]
 rw[if_neg (by decide)]
 rw[if_neg (by decide)]
 rw[if_neg (by decide)]
 rw[if_neg (by decide)]
 rw[if_neg (by decide)]
 rw[if_neg (by decide)]
 rw[if_neg (by decide)]
 rw[if_neg (by decide)]
 rw[if_pos rfl]
theorem dp_wIn(n:List UInt8)(vs:List BV.V):deedP wIn n vs=dIn vs:=by
 unfold deedP;rw[if_neg (by decide)]
 rw[if_neg (by decide)]
 rw[if_neg (by decide)]
 rw[if_neg (by decide)]
 rw[if_neg (by decide)]
 rw[if_neg (by decide)]
 rw[if_neg (by decide)]
 rw[if_neg (by decide)]
 rw[if_neg (by decide)]
 rw[if_neg (by decide)]
 rw[if_pos rfl]
theorem dp_wLike(n:List UInt8)(vs:List BV.V):deedP wLike n vs=two2 dLike vs:=by
 unfold deedP;rw[if_neg (by decide)]
 rw[if_neg (by decide)]
 rw[if_neg (by decide)]
 rw[if_neg (by decide)]
 rw[if_neg (by decide)]
 rw[if_neg (by decide)]
 rw[if_neg (by decide)]
 rw[if_neg (by decide)]
 rw[if_neg (by decide)]
 rw[if_neg (by decide)]
 rw[if_neg (by decide)]
 rw[if_pos rfl]
theorem dp_wBetween(n:List UInt8)(vs:List BV.V):deedP wBetween n vs=three3 dBetween vs:=by
 unfold deedP;rw[if_neg (by decide)]
 rw[if_neg (by decide)]
 rw[if_neg (by decide)]
 rw[if_neg (by decide)]
 rw[if_neg (by decide)]
 rw[if_neg (by decide)]
 rw[if_neg (by decide)]
 rw[if_neg (by decide)]
 rw[if_neg (by decide)]
 rw[if_neg (by decide)]
 rw[if_neg (by decide)]
 rw[if_neg (by decide)]
 rw[if_pos rfl]
theorem dp_none{o:List UInt8}(n:List UInt8)(vs:List BV.V)(h:o∉[wLit,wAt,wNeg]++arOps ++ [wJoin,wCall,wNot,wAnd,wOr]++relOps ++ [wIsnull,wNotnull,wIn,wLike,wBetween]):o≠wLit∧o≠wAt∧deedP o n vs=(1,zW):=by
 simp only[List.mem_append,List.mem_cons,List.not_mem_nil,or_false,not_or]at h;obtain⟨⟨⟨⟨⟨h1,h2,h3⟩,h4⟩,h5,h6,h7,h8,h9⟩,h10⟩,h11,h12,h13,h14,h15⟩:=h;refine⟨h1,h2,?_⟩;unfold deedP;rw[if_neg h3,if_neg h4,if_neg h5,if_neg h6,if_neg h7,if_neg h8,if_neg h9,if_neg h10,if_neg h11,if_neg h12,if_neg h13,if_neg h14,if_neg h15]
theorem ar_not{o:List UInt8}(h:o∈arOps):o≠wLit∧o≠wAt:=by
 simp only[arOps,List.mem_cons,List.not_mem_nil,or_false]at h;rcases h with rfl | rfl | rfl | rfl | rfl <;> decide
theorem rel_not{o:List UInt8}(h:o∈relOps):o≠wLit∧o≠wAt:=by
 simp only[relOps,List.mem_cons,List.not_mem_nil,or_false]at h;rcases h with rfl | rfl | rfl | rfl | rfl | rfl <;> decide
theorem dk_runs(o n:List UInt8)(v:BV.V)(A:Option Addr)(r:List BV.V)(c:Nat)(W:World)(fv:Value)(g:Nat)(vs:List BV.V)(h:DK W o n v A r.length c fv)(hA:Args W g vs)(hm:vs.length≤2000)(hf:AllFit vs)(_hv:I64 v)(hE:SC.Env W)(hr:BV.RowAt W W.heap.size A r)(h5:r.length≤100000):Runs W fv g vs.length (opP deedP o n (ofV v) r vs):=by
 cases h with
 | lit g' ho hb =>
  subst ho;rw[opP_lit];exact⟨_,_,rfl,Proofs.enters_of Tryz.func84 (by kernel_rfl) rfl,dvLit _ g' v W hb⟩
 | «at» g' h' ho hb hb' =>
  subst ho;rw[opP_at];exact⟨_,_,rfl,Proofs.enters_of Tryz.func85 (by kernel_rfl) rfl,dvAt _ g' h' A c r v W hb hb' hr (by omega)⟩
 | neg g' ho hb =>
  subst ho;rw[opP_other _ _ _ _ _ (by decide) (by decide),dp_wNeg]
  exact⟨_,_,rfl,Proofs.enters_of Tryz.func137 (by kernel_rfl) rfl,oneNeg g' g dNeg vs W hb hA fun a he W' _=>SC.neg_any a W' (hf a (by rw[he];simp)).1⟩
 | ar g' h' ho hb hs =>
  rw[opP_other _ _ _ _ _ (ar_not ho).1 (ar_not ho).2,dp_ar _ _ ho];exact⟨_,_,rfl,Proofs.enters_of Tryz.func139 (by kernel_rfl) rfl,twoAr g' g h' _ vs W hb hA fun a b he W' hb'=>dvArith h' (str o) a b W' (hs.later hb') (hf a (by rw[he];simp)).1 (hf b (by rw[he];simp)).1⟩
 | jo g' ho hb =>
  subst ho;rw[opP_other _ _ _ _ _ (by decide) (by decide),dp_wJoin]
  exact⟨_,_,rfl,Proofs.enters_of Tryz.func139 (by kernel_rfl) rfl,twoJo g' g _ vs W hb hA fun a b he W' _=>SC.join_any a b W' (by have:=(hf a (by rw[he];simp)).2;omega) (by have:=(hf b (by rw[he];simp)).2;omega)⟩
 | call h' ho hs =>
  subst ho;rw[opP_other _ _ _ _ _ (by decide) (by decide),dp_wCall]
  exact⟨_,_,rfl,Proofs.enters_of Tryz.func93 (by kernel_rfl) rfl,dvCall g h' n vs W hA hs hm hE hf⟩
 | not g' ho hb =>
  subst ho;rw[opP_other _ _ _ _ _ (by decide) (by decide),dp_wNot]
  exact⟨_,_,rfl,Proofs.enters_of Tryz.func137 (by kernel_rfl) rfl,oneNot g' g _ vs W hb hA fun a he W' _=>LG.not_any a W'⟩
 | and ho =>
  subst ho;rw[opP_other _ _ _ _ _ (by decide) (by decide),dp_wAnd]
  exact⟨_,_,rfl,Proofs.enters_of Tryz.func96 (by kernel_rfl) rfl,dvAnd g vs W hA hm⟩
 | or ho =>
  subst ho;rw[opP_other _ _ _ _ _ (by decide) (by decide),dp_wOr]
  exact⟨_,_,rfl,Proofs.enters_of Tryz.func98 (by kernel_rfl) rfl,dvOr g vs W hA hm⟩
 | rel g' h' ho hb hs =>
  rw[opP_other _ _ _ _ _ (rel_not ho).1 (rel_not ho).2,dp_rel _ _ ho];exact⟨_,_,rfl,Proofs.enters_of Tryz.func139 (by kernel_rfl) rfl,twoRel g' g h' _ vs W hb hA fun a b he W' hb'=>dvRel h' (str o) a b W' (hs.later hb')⟩
 | isn g' ho hb =>
  subst ho;rw[opP_other _ _ _ _ _ (by decide) (by decide),dp_wIsnull]
  exact⟨_,_,rfl,Proofs.enters_of Tryz.func137 (by kernel_rfl) rfl,oneIsn g' g _ vs W hb hA fun a he W' _=>dvIsnull a W'⟩
 | non g' ho hb =>
  subst ho;rw[opP_other _ _ _ _ _ (by decide) (by decide),dp_wNotnull]
  exact⟨_,_,rfl,Proofs.enters_of Tryz.func137 (by kernel_rfl) rfl,oneNon g' g _ vs W hb hA fun a he W' _=>dvNotnull a W'⟩
 | isin ho =>
  subst ho;rw[opP_other _ _ _ _ _ (by decide) (by decide),dp_wIn]
  exact⟨_,_,rfl,Proofs.enters_of Tryz.func105 (by kernel_rfl) rfl,dvIn g vs W hA hm⟩
 | like g' ho hb =>
  subst ho;rw[opP_other _ _ _ _ _ (by decide) (by decide),dp_wLike]
  exact⟨_,_,rfl,Proofs.enters_of Tryz.func139 (by kernel_rfl) rfl,twoLike g' g _ vs W hb hA fun a b he W' _=>dvLike a b W' (hf a (by rw[he];simp)).2 (hf b (by rw[he];simp)).2⟩
 | btw ho =>
  subst ho;rw[opP_other _ _ _ _ _ (by decide) (by decide),dp_wBetween]
  exact⟨_,_,rfl,Proofs.enters_of Tryz.func107 (by kernel_rfl) rfl,dvBetween g vs W hA⟩
 | none ho =>
  obtain⟨h1,h2,h3⟩:=dp_none n vs ho;rw[opP_other _ _ _ _ _ h1 h2,h3];exact⟨_,_,rfl,Proofs.enters_of Tryz.func108 (by kernel_rfl) rfl,refuse_any _ W⟩
theorem evalE_any(r:List BV.V)(hr5:r.length≤100000)(e:E)(x:Value)(S:Nat→Prop)(w:World)(A:Option Addr)(c:Nat)(hx:EAt S w e x)(hr:BV.RowAt w w.heap.size A r)(hE:SC.Env w)(hf:e.fit deedP r) :
  Calls Tryz.prog 36 #[x,.slice A r.length c] w fun q w'=>q = .returned (vA (e.ev deedP r))∧Below w.heap.size w w' :=
 eval_any deedP dk_runs r hr5 e x S w A c hx hr hE hf
end Go.Proofs.YtcicpjgnpcnnmaaGreatDoor
namespace Go.Proofs.YtcicpjgnpcnnmaaGreatDoor
open Go.RowKit
def atE(i:Int):E:= .mk wAt ⟨2,i,[]⟩ [] [] []
theorem ev_at(r:List BV.V)(i:Int):(atE i).ev deedP r=atP r i:=by simp[atE,E.ev,E.evL,opP,wAt,wLit]
theorem ev_two(o:List UInt8)(r:List BV.V)(a b:E)(x y:BV.V)(h1:o≠wLit)(h2:o≠wAt)(ha:a.ev deedP r=(0,x))(hb:b.ev deedP r=(0,y)):(op1 o [a,b]).ev deedP r=deedP o [] [x,y]:=by
 simp[op1,E.ev,E.evL,ha,hb,opP,h1,h2]
theorem fit_small(r:List BV.V)(hr:∀ v∈r,(-9223372036854775808≤v.i∧v.i≤9223372036854775807)∧v.s.size≤100000)(e:E)(h1:e.size≤1000)(h2:e.ints=true)(h3:e.lt=true):e.fit deedP r:=(ev_fit deeds_small hr e h1 h2 h3).1
open SC (HV VBox zero_box Args)
theorem sub_none(S:Nat→Prop)(w:World)(o:List UInt8)(v:Vl)(t n:List UInt8):Sub S w (.mk o v t n []) none 0:=⟨Nat.zero_le _,by unfold maxLen;omega,fun h=>by simp at h⟩
theorem deep_sizeE(e:E):e.deep≤e.size:=by
 induction e using E.ind with
 | h o v t n l ih =>
  simp only[E.deep,E.size]
  suffices E.deepL l≤E.sizeL l by omega
  clear o v t n
  induction l with
  | nil=>simp[E.deepL,E.sizeL]
  | cons x l ihl =>
   have h1:=ih x (by simp)
   have h2:=ihl fun y hy=>ih y (by simp[hy])
   simp only[E.deepL,E.sizeL]
   omega
end Go.Proofs.YtcicpjgnpcnnmaaGreatDoor
namespace Go.Proofs.YtcicpjgnpcnnmaaGreatDoor
open Go.RowKit
open SC (HV VBox zero_box Args)
theorem at1_any(i:Int)(w:World):Calls Tryz.prog 25 #[.int .i64 i] w fun r w'=>r = .returned (.agg #[.string ⟨#[97,116]⟩,.int .i64 2,.int .i64 i,.string ⟨#[]⟩,.string ⟨#[]⟩,.string ⟨#[]⟩,.slice none 0 0])∧Below w.heap.size w w':=by
 obtain⟨W1,hW1,p1,hz,hb1⟩:=zero7 w;have HW1:=Hi hW1;have P1:=Hi p1;have B1:=Hi hb1;clear hW1 p1 hb1 hz;go_enter Tryz.func25,Tryz.ntmps25
 go_wp2_with (rw[←HW1.out])
 refine(rInt1 i _).mono ?_;rintro e w2 ⟨rfl,b2⟩;have P3:=P1.out.later b2;have B3:=Hi (bthen B1.out b2);obtain⟨y0,y1,y2,y3,y4,y5,y6⟩:=P3.cells;obtain⟨f0,f1,f2,f3,f4,f5,f6⟩:=P3.free;obtain⟨W8,hW8,b8,z8,o8,l8⟩:=stored7 P3 (.string ⟨#[97,116]⟩) (.int .i64 2) (.int .i64 i) (.string ⟨#[]⟩) (.string ⟨#[]⟩) (.string ⟨#[]⟩) (.slice none 0 0);obtain⟨k0,k1,k2,k3,k4,k5,k6⟩:=b8.cells;have B8:=Hi (B3.out.trans (l8 w.heap.size (Nat.le_refl _)));have HW8:=Hi hW8;clear b2 P3 b8 z8 o8 l8 hW8
 go_wp2_with (rw[←HW8.out])
 exact bodyPost_ret (v:= .agg #[.string ⟨#[97,116]⟩,.int .i64 2,.int .i64 i,.string ⟨#[]⟩,.string ⟨#[]⟩,.string ⟨#[]⟩,.slice none 0 0]) (by simp[results,Tryz.results25,go_sem,k0,k1,k2,k3,k4,k5,k6]) rfl ⟨rfl,B8.out⟩
end Go.Proofs.YtcicpjgnpcnnmaaGreatDoor
namespace Go.Proofs.YtcicpjgnpcnnmaaGreatDoor
open Go.RowKit
mutual
def E.light:E→Bool
 | .mk o v _ n l=>decide (v.s.length≤60) && decide (o.length≤20) && decide (n.length≤60) && E.lightL l
def E.lightL:List E→Bool
 | []=>true
 | a::l=>a.light && E.lightL l
end
theorem light_any(e:E):∀ (x:Value)(S:Nat→Prop)(w:World),EAt S w e x→Calls Tryz.prog 31 #[x] w fun r w'=>r = .returned (.bool e.light)∧Below w.heap.size w w':=by
 induction e using E.ind with
 | h o v t n l ih =>
  rintro x S w ⟨A,c,rfl,hsub⟩;obtain⟨hlc,hcm,hmem⟩:=hsub;have hm:l.length≤9223372036854775807:=Nat.le_trans hlc hcm;have HI:=Hi (fun(k:Nat) (hk:k < l.length) (x:Value) (S:Nat→Prop) (w:World) (hx:EAt S w l[k] x)=>ih l[k] (List.getElem_mem hk) x S w hx)
  simp only[E.op,E.v,E.tb,E.nm,E.l,eVal,E.light];have HL:Hid (∀ k (hk:k < l.length),E.lightL (l.drop k)=(l[k].light && E.lightL (l.drop (k+1)))):=fun k hk=>by rw[List.drop_eq_getElem_cons hk];simp only[E.lightL]
  generalize hR:E.lightL l=R at *;have HR:Hid (E.lightL (l.drop 0)=R):=by rw[List.drop_zero];exact hR
  clear hR;have z1:(str o).size=o.length:=str_size o;have z2:(str n).size=n.length:=str_size n;have z3:(str v.s).size=v.s.length:=str_size v.s;rw[←z1,←z2,←z3];clear z1 z2 z3;generalize str o=bo at *;generalize str t=bt at *;generalize str n=bn at *;generalize str v.s=bs at *;generalize v.k=vk at *;generalize v.i=vi at *;obtain⟨W1,hW1,q1,z1,r1⟩:=box7 w (.string bo) (.int .i64 vk) (.int .i64 vi) (.string bs) (.string bt) (.string bn) (.slice A l.length c);obtain⟨x0,x1,x2,x3,x4,x5,x6⟩:=q1.cells;have HM:=Hi hmem;have HB0:=Hi r1;have HW1:=Hi hW1;clear ih hmem hlc hcm hW1 q1 z1 r1
  by_cases h1:bs.size≤60∧bo.size≤20∧bn.size≤60
  ·obtain⟨ha,hb,hc⟩:=h1
   have hd:(decide (bs.size≤60) && decide (bo.size≤20) && decide (bn.size≤60) && R)=R:=by simp[ha,hb,hc]
   rw[hd];clear hd;go_enter Tryz.func31,Tryz.ntmps31
   go_wp2_with (rw[←HW1.out])
   clear x0 x1 x2 x3 x4 x5 x6 ha hb hc
   go_loopw [25] (fun iv wr=>∃ k:Nat,k≤l.length∧iv = .int .i64 k∧Hid (E.lightL (l.drop k)=R)∧Hid (Below w.heap.size w wr)) (fun iv _=>l.length - (intOf iv).toNat)
   case atStart=>exact⟨0,Nat.zero_le _,rfl,HR.out,HB0.out⟩
   case round =>
    obtain⟨k,hk,rfl,HK,HB⟩:=hrel
    by_cases hlt:k < l.length
    ·obtain⟨g,off,rfl,hS,hg,hl⟩:=HM.out (by omega)
     obtain⟨A',c',⟨g0,g1,g2,g3,g4,g5,g6⟩,hs⟩:=hl.get k hlt;have hkz:(k:Int) < (l.length:Int):=by omega
     have i0:=(HB.out.cell (p:=⟨g,off+k*7,none⟩) hg).trans g0;have i1:=(HB.out.cell (p:=⟨g,off+k*7+1,none⟩) hg).trans g1;have i2:=(HB.out.cell (p:=⟨g,off+k*7+2,none⟩) hg).trans g2;have i3:=(HB.out.cell (p:=⟨g,off+k*7+3,none⟩) hg).trans g3;have i4:=(HB.out.cell (p:=⟨g,off+k*7+4,none⟩) hg).trans g4;have i5:=(HB.out.cell (p:=⟨g,off+k*7+5,none⟩) hg).trans g5;have i6:=(HB.out.cell (p:=⟨g,off+k*7+6,none⟩) hg).trans g6;obtain⟨W1,W,hW1,hW,b1,b2,hz,hb1,hb2⟩:=made7 wr (.string (str l[k].op)) (.int .i64 l[k].v.k) (.int .i64 l[k].v.i) (.string (str l[k].v.s)) (.string (str l[k].tb)) (.string (str l[k].nm)) (.slice A' l[k].l.length c');have f1:=b1.free;have y1:=b2.cells;obtain⟨p10,p11,p12,p13,p14,p15,p16⟩:=b1.cells
     have hE:EAt S W l[k] (eVal l[k].op l[k].v l[k].tb l[k].nm (.slice A' l[k].l.length c')):=by
      have h0:EAt S w l[k] (eVal l[k].op l[k].v l[k].tb l[k].nm (.slice A' l[k].l.length c')):=⟨A',c',rfl,hs⟩;exact(h0.later HB.out).later hb2
     have HC:=Hi (HI.out k hlt _ S W hE);have hKK:=HL.out k hlt;rw[HK.out]at hKK;have HB2:=Hi (bthen HB.out hb2);have HW1:=Hi hW1;have HW:=Hi hW;obtain⟨f10,f11,f12,f13,f14,f15,f16⟩:=f1;obtain⟨y10,y11,y12,y13,y14,y15,y16⟩:=y1;unfold eVal at HC;generalize str l[k].op=bo' at *;generalize str l[k].tb=bt' at *;generalize str l[k].nm=bn' at *;generalize str l[k].v.s=bs' at *;generalize l[k].v.k=vk' at *;generalize l[k].v.i=vi' at *;generalize l[k].l.length=ln' at *;generalize hdp:l[k].light=Q at *;have HKK:=Hi hKK;clear hW1 hW hs hl hE g0 g1 g2 g3 g4 g5 g6 b1 b2 hb1 hb2 HB HI HM HB0 hdp HK HR HL hKK
     go_wp2_with (first | (rw[←HW.out]) | (rw[←HW1.out]))
     refine(HC.out).mono ?_;rintro e w3 ⟨rfl,b3⟩;have hk3:=HKK.out;cases Q
     ·rw[Bool.false_and]at hk3
      subst hk3;go_wp2_with fail
      go_ret
      exact⟨rfl,bthen HB2.out b3⟩
     ·rw[Bool.true_and]at hk3
      have HK3:=Hi hk3.symm;clear hk3 HKK;go_wp2_with fail
      go_roundw
      case measure=>simp[intOf];omega
      case rel=>exact⟨k+1,by omega,by go_num,HK3.out,bthen HB2.out b3⟩
    ·have hke:k=l.length:=by omega
     have hkz:¬(k:Int) < (l.length:Int):=by omega
     subst hke;have hKK:=HK.out;rw[List.drop_length]at hKK;simp only[E.lightL]at hKK;subst hKK;clear HM HI HB0 HL HR HK;go_wp2_with fail
     go_ret
     exact⟨rfl,HB.out⟩
  ·have hd:(decide (bs.size≤60) && decide (bo.size≤20) && decide (bn.size≤60) && R)=false:=by
    simp only[Bool.and_eq_false_iff,decide_eq_false_iff_not]
    omega
   rw[hd]
   have hd2:(decide (60 < (bs.size:Int)) || decide (20 < (bo.size:Int)) || decide (60 < (bn.size:Int)))=true:=by
    simp only[Bool.or_eq_true,decide_eq_true_eq]
    omega
   clear hd h1;go_enter Tryz.func31,Tryz.ntmps31
   go_wp2_with (rw[←HW1.out])
   all_goals (go_ret;first | exact⟨rfl,HB0.out⟩ | (exfalso;omega))
end Go.Proofs.YtcicpjgnpcnnmaaGreatDoor
