import Derived.Test.YtcicpjgnpcnnmaaGreatDoorQ66
import Derived.Test.YtcicpjgnpcnnmaaGreatDoorQ61
set_option maxRecDepth 100000
set_option maxHeartbeats 1000000
set_option linter.unusedSimpArgs false
set_option linter.unusedVariables false
namespace Go.Proofs.YtcicpjgnpcnnmaaGreatDoor
open Go.RowKit
open SC (HV VBox)
theorem tru_bi(b:Bool):(⟨1,LG.bi b,⟨#[]⟩⟩:BV.V)=tru b:=by cases b <;> rfl
theorem relOps_not:∀ o∈relOps,decide (o∈lsRels)=true∧o≠wAnd∧o≠wOr∧o≠wJoin∧o≠wLike:=by decide
theorem arOps_not:∀ o∈arOps,decide (o∈lsRels)=false∧o≠wAnd∧o≠wOr∧o≠wJoin∧o≠wLike:=by decide
theorem word_ne{o u:List UInt8}(h:o≠u):((str o).toList == u)=false:=by
 rw[Lib.toList_data]
 simpa [str]using h
theorem r1_neg(v:BV.V)(w:World)(hI:I64 v):Calls Tryz.prog 64 #[.string ⟨#[110,101,103]⟩,.agg #[.int .i64 v.k,.int .i64 v.i,.string v.s]] w (VR w (dNeg v).2 (dNeg v).1):=by
 have HX:=Hi (fun W=>SC.rneg_any v W (by unfold SC.In64;exact hI))
 show Calls Tryz.prog 64 _ w (VR w (SC.arV ⟨#[45]⟩ (SC.nV 0) v) (SC.arE ⟨#[45]⟩ (SC.nV 0) v))
 generalize SC.arV ⟨#[45]⟩ (SC.nV 0) v=R at *;generalize SC.arE ⟨#[45]⟩ (SC.nV 0) v=er at *;obtain⟨W1,hW1⟩:∃ W1,W1=(w.alloc (.cells #[.int .i64 v.k,.int .i64 v.i,.string v.s] 26)).alloc (.cells #[.int .i64 0,.int .i64 0,.string ⟨#[]⟩] 26):=⟨_,rfl⟩;have HH:Hid (HV w [(w.heap.size+1,zW),(w.heap.size,v)] W1):=Hi (by rw[hW1];exact((HV.nil w).push v).pushAt (by simp) zW)
 have HW1:=Hi hW1;obtain⟨v0,v1,v2⟩:=HH.out.tail.box.cells;dsimp only at v0 v1 v2;clear hW1;go_enter Tryz.func64,Tryz.ntmps64
 go_wp2_with (rw[←HW1.out])
 refine(HX.out W1).mono ?_;rintro q w3 ⟨rfl,b3⟩;have H3:=Hi (HH.out.call b3);obtain⟨g0,g1,g2⟩:=H3.out.box.cells;obtain⟨k0,k1,k2⟩:=H3.out.box.free;simp only[zW]at g0 g1 g2;go_wp2_with fail;exact bodyPost_ret (v:= .tuple #[.agg #[.int .i64 R.k,.int .i64 R.i,.string R.s],.int .i64 er]) (by simp[results,Tryz.results64,go_sem,g0,g1,g2]) rfl ⟨rfl,vset3 H3.out.below (by omega) _ _ _⟩
theorem r1_not(v:BV.V)(w:World):Calls Tryz.prog 64 #[.string ⟨#[110,111,116]⟩,.agg #[.int .i64 v.k,.int .i64 v.i,.string v.s]] w (VR w (((LG.ctL [v],LG.notV v):Ans)).2 (((LG.ctL [v],LG.notV v):Ans)).1):=by
 have HX:=Hi (fun W=>LG.rnot_any v W)
 show Calls Tryz.prog 64 _ w (VR w (LG.notV v) (LG.ctL [v]))
 generalize LG.notV v=R at *;generalize LG.ctL [v]=er at *;obtain⟨W1,hW1⟩:∃ W1,W1=(w.alloc (.cells #[.int .i64 v.k,.int .i64 v.i,.string v.s] 26)).alloc (.cells #[.int .i64 0,.int .i64 0,.string ⟨#[]⟩] 26):=⟨_,rfl⟩;have HH:Hid (HV w [(w.heap.size+1,zW),(w.heap.size,v)] W1):=Hi (by rw[hW1];exact((HV.nil w).push v).pushAt (by simp) zW)
 have HW1:=Hi hW1;obtain⟨v0,v1,v2⟩:=HH.out.tail.box.cells;dsimp only at v0 v1 v2;clear hW1;go_enter Tryz.func64,Tryz.ntmps64
 go_wp2_with (rw[←HW1.out])
 refine(HX.out W1).mono ?_;rintro q w3 ⟨rfl,b3⟩;have H3:=Hi (HH.out.call b3);obtain⟨g0,g1,g2⟩:=H3.out.box.cells;obtain⟨k0,k1,k2⟩:=H3.out.box.free;simp only[zW]at g0 g1 g2;go_wp2_with fail;exact bodyPost_ret (v:= .tuple #[.agg #[.int .i64 R.k,.int .i64 R.i,.string R.s],.int .i64 er]) (by simp[results,Tryz.results64,go_sem,g0,g1,g2]) rfl ⟨rfl,vset3 H3.out.below (by omega) _ _ _⟩
theorem r1_isnull(v:BV.V)(w:World):Calls Tryz.prog 64 #[.string ⟨#[105,115,110,117,108,108]⟩,.agg #[.int .i64 v.k,.int .i64 v.i,.string v.s]] w (VR w (((0,tru (v.k == 0)):Ans)).2 (((0,tru (v.k == 0)):Ans)).1):=by
 show Calls Tryz.prog 64 _ w (VR w (tru (v.k == 0)) 0)
 rw[←tru_bi];obtain⟨W1,hW1⟩:∃ W1,W1=(w.alloc (.cells #[.int .i64 v.k,.int .i64 v.i,.string v.s] 26)).alloc (.cells #[.int .i64 0,.int .i64 0,.string ⟨#[]⟩] 26):=⟨_,rfl⟩;have HH:Hid (HV w [(w.heap.size+1,zW),(w.heap.size,v)] W1):=Hi (by rw[hW1];exact((HV.nil w).push v).pushAt (by simp) zW)
 have HW1:=Hi hW1;obtain⟨v0,v1,v2⟩:=HH.out.tail.box.cells;dsimp only at v0 v1 v2;clear hW1;go_enter Tryz.func64,Tryz.ntmps64
 go_wp2_with (rw[←HW1.out])
 refine(LG.bool1_any (v.k == 0) W1).mono ?_;rintro q w3 ⟨rfl,b3⟩;have H3:=Hi (HH.out.call b3);obtain⟨g0,g1,g2⟩:=H3.out.box.cells;obtain⟨k0,k1,k2⟩:=H3.out.box.free;simp only[zW]at g0 g1 g2;go_wp2_with fail;exact bodyPost_ret (v:= .tuple #[.agg #[.int .i64 1,.int .i64 (LG.bi (v.k == 0)),.string ⟨#[]⟩],.int .i64 0]) (by simp[results,Tryz.results64,go_sem,g0,g1,g2]) rfl ⟨rfl,vset3 H3.out.below (by omega) _ _ _⟩
theorem r1_notnull(v:BV.V)(w:World):Calls Tryz.prog 64 #[.string ⟨#[110,111,116,110,117,108,108]⟩,.agg #[.int .i64 v.k,.int .i64 v.i,.string v.s]] w (VR w (((0,tru (v.k != 0)):Ans)).2 (((0,tru (v.k != 0)):Ans)).1):=by
 show Calls Tryz.prog 64 _ w (VR w (tru (v.k != 0)) 0)
 rw[←tru_bi];obtain⟨W1,hW1⟩:∃ W1,W1=(w.alloc (.cells #[.int .i64 v.k,.int .i64 v.i,.string v.s] 26)).alloc (.cells #[.int .i64 0,.int .i64 0,.string ⟨#[]⟩] 26):=⟨_,rfl⟩;have HH:Hid (HV w [(w.heap.size+1,zW),(w.heap.size,v)] W1):=Hi (by rw[hW1];exact((HV.nil w).push v).pushAt (by simp) zW)
 have HW1:=Hi hW1;obtain⟨v0,v1,v2⟩:=HH.out.tail.box.cells;dsimp only at v0 v1 v2;clear hW1;go_enter Tryz.func64,Tryz.ntmps64
 go_wp2_with (rw[←HW1.out])
 refine(LG.bool1_any (v.k != 0) W1).mono ?_;rintro q w3 ⟨rfl,b3⟩;have H3:=Hi (HH.out.call b3);obtain⟨g0,g1,g2⟩:=H3.out.box.cells;obtain⟨k0,k1,k2⟩:=H3.out.box.free;simp only[zW]at g0 g1 g2;go_wp2_with fail;exact bodyPost_ret (v:= .tuple #[.agg #[.int .i64 1,.int .i64 (LG.bi (v.k != 0)),.string ⟨#[]⟩],.int .i64 0]) (by simp[results,Tryz.results64,go_sem,g0,g1,g2]) rfl ⟨rfl,vset3 H3.out.below (by omega) _ _ _⟩
theorem r2_and(a b:BV.V)(w:World):Calls Tryz.prog 65 #[.string ⟨#[97,110,100]⟩,.agg #[.int .i64 a.k,.int .i64 a.i,.string a.s],.agg #[.int .i64 b.k,.int .i64 b.i,.string b.s]] w (VR w (((LG.ctL [a,b],LG.decV false [a,b]):Ans)).2 (((LG.ctL [a,b],LG.decV false [a,b]):Ans)).1):=by
 have HX:=Hi (fun W (g:Nat) (h:BV.RowAt W W.heap.size (some ⟨g,0,none⟩) [a,b])=>LG.rand_any [a,b] (some ⟨g,0,none⟩) 2 W h (by simp))
 simp only[List.length_cons,List.length_nil,Nat.zero_add,Nat.reduceAdd]at HX
 show Calls Tryz.prog 65 _ w (VR w (LG.decV false [a,b]) (LG.ctL [a,b]))
 generalize LG.decV false [a,b]=R at *;generalize LG.ctL [a,b]=er at *;obtain⟨W1,hW1⟩:∃ W1,W1=((w.alloc (.cells #[.int .i64 a.k,.int .i64 a.i,.string a.s] 26)).alloc (.cells #[.int .i64 b.k,.int .i64 b.i,.string b.s] 26)).alloc (.cells #[.int .i64 0,.int .i64 0,.string ⟨#[]⟩] 26):=⟨_,rfl⟩;have HH:Hid (HV w [(w.heap.size+2,zW),(w.heap.size+1,b),(w.heap.size,a)] W1):=Hi (by rw[hW1];exact(((HV.nil w).push a).pushAt (by simp) b).pushAt (by simp) zW)
 have HW1:=Hi hW1;obtain⟨v0,v1,v2⟩:=HH.out.tail.tail.box.cells;obtain⟨u0,u1,u2⟩:=HH.out.tail.box.cells;dsimp only at v0 v1 v2 u0 u1 u2;clear hW1;go_enter Tryz.func65,Tryz.ntmps65
 go_wp2_with (rw[←HW1.out])
 refine(HX.out _ _ (LG.w4of_row W1 a b)).mono ?_;rintro q w3 ⟨rfl,b3⟩;have H3:=Hi ((HH.out.alloc _).call b3);obtain⟨g0,g1,g2⟩:=H3.out.box.cells;obtain⟨k0,k1,k2⟩:=H3.out.box.free;simp only[zW]at g0 g1 g2;go_wp2_with fail;exact bodyPost_ret (v:= .tuple #[.agg #[.int .i64 R.k,.int .i64 R.i,.string R.s],.int .i64 er]) (by simp[results,Tryz.results65,go_sem,g0,g1,g2]) rfl ⟨rfl,vset3 H3.out.below (by omega) _ _ _⟩
theorem r2_or(a b:BV.V)(w:World):Calls Tryz.prog 65 #[.string ⟨#[111,114]⟩,.agg #[.int .i64 a.k,.int .i64 a.i,.string a.s],.agg #[.int .i64 b.k,.int .i64 b.i,.string b.s]] w (VR w (((LG.ctL [a,b],LG.decV true [a,b]):Ans)).2 (((LG.ctL [a,b],LG.decV true [a,b]):Ans)).1):=by
 have HX:=Hi (fun W (g:Nat) (h:BV.RowAt W W.heap.size (some ⟨g,0,none⟩) [a,b])=>LG.ror_any [a,b] (some ⟨g,0,none⟩) 2 W h (by simp))
 simp only[List.length_cons,List.length_nil,Nat.zero_add,Nat.reduceAdd]at HX
 show Calls Tryz.prog 65 _ w (VR w (LG.decV true [a,b]) (LG.ctL [a,b]))
 generalize LG.decV true [a,b]=R at *;generalize LG.ctL [a,b]=er at *;obtain⟨W1,hW1⟩:∃ W1,W1=((w.alloc (.cells #[.int .i64 a.k,.int .i64 a.i,.string a.s] 26)).alloc (.cells #[.int .i64 b.k,.int .i64 b.i,.string b.s] 26)).alloc (.cells #[.int .i64 0,.int .i64 0,.string ⟨#[]⟩] 26):=⟨_,rfl⟩;have HH:Hid (HV w [(w.heap.size+2,zW),(w.heap.size+1,b),(w.heap.size,a)] W1):=Hi (by rw[hW1];exact(((HV.nil w).push a).pushAt (by simp) b).pushAt (by simp) zW)
 have HW1:=Hi hW1;obtain⟨v0,v1,v2⟩:=HH.out.tail.tail.box.cells;obtain⟨u0,u1,u2⟩:=HH.out.tail.box.cells;dsimp only at v0 v1 v2 u0 u1 u2;clear hW1;go_enter Tryz.func65,Tryz.ntmps65
 go_wp2_with (rw[←HW1.out])
 refine(HX.out _ _ (LG.w4of_row W1 a b)).mono ?_;rintro q w3 ⟨rfl,b3⟩;have H3:=Hi ((HH.out.alloc _).call b3);obtain⟨g0,g1,g2⟩:=H3.out.box.cells;obtain⟨k0,k1,k2⟩:=H3.out.box.free;simp only[zW]at g0 g1 g2;go_wp2_with fail;exact bodyPost_ret (v:= .tuple #[.agg #[.int .i64 R.k,.int .i64 R.i,.string R.s],.int .i64 er]) (by simp[results,Tryz.results65,go_sem,g0,g1,g2]) rfl ⟨rfl,vset3 H3.out.below (by omega) _ _ _⟩
theorem r2_join(a b:BV.V)(w:World)(h1:a.s.size≤100000000)(h2:b.s.size≤100000000):Calls Tryz.prog 65 #[.string ⟨#[124,124]⟩,.agg #[.int .i64 a.k,.int .i64 a.i,.string a.s],.agg #[.int .i64 b.k,.int .i64 b.i,.string b.s]] w (VR w (((SC.joE a b,SC.joV a b):Ans)).2 (((SC.joE a b,SC.joV a b):Ans)).1):=by
 have HX:=Hi (fun W=>SC.rjoin_any a b W (by omega) (by omega))
 show Calls Tryz.prog 65 _ w (VR w (SC.joV a b) (SC.joE a b))
 generalize SC.joV a b=R at *;generalize SC.joE a b=er at *;obtain⟨W1,hW1⟩:∃ W1,W1=((w.alloc (.cells #[.int .i64 a.k,.int .i64 a.i,.string a.s] 26)).alloc (.cells #[.int .i64 b.k,.int .i64 b.i,.string b.s] 26)).alloc (.cells #[.int .i64 0,.int .i64 0,.string ⟨#[]⟩] 26):=⟨_,rfl⟩;have HH:Hid (HV w [(w.heap.size+2,zW),(w.heap.size+1,b),(w.heap.size,a)] W1):=Hi (by rw[hW1];exact(((HV.nil w).push a).pushAt (by simp) b).pushAt (by simp) zW)
 have HW1:=Hi hW1;obtain⟨v0,v1,v2⟩:=HH.out.tail.tail.box.cells;obtain⟨u0,u1,u2⟩:=HH.out.tail.box.cells;dsimp only at v0 v1 v2 u0 u1 u2;clear hW1;go_enter Tryz.func65,Tryz.ntmps65
 go_wp2_with (rw[←HW1.out])
 refine(HX.out W1).mono ?_;rintro q w3 ⟨rfl,b3⟩;have H3:=Hi (HH.out.call b3);obtain⟨g0,g1,g2⟩:=H3.out.box.cells;obtain⟨k0,k1,k2⟩:=H3.out.box.free;simp only[zW]at g0 g1 g2;go_wp2_with fail;exact bodyPost_ret (v:= .tuple #[.agg #[.int .i64 R.k,.int .i64 R.i,.string R.s],.int .i64 er]) (by simp[results,Tryz.results65,go_sem,g0,g1,g2]) rfl ⟨rfl,vset3 H3.out.below (by omega) _ _ _⟩
theorem r2_rel(o:List UInt8)(ho:o∈relOps)(a b:BV.V)(w:World):Calls Tryz.prog 65 #[.string (str o),.agg #[.int .i64 a.k,.int .i64 a.i,.string a.s],.agg #[.int .i64 b.k,.int .i64 b.i,.string b.s]] w (VR w (((LG.relE (str o) a b,LG.relR (str o) a b):Ans)).2 (((LG.relE (str o) a b,LG.relR (str o) a b):Ans)).1):=by
 have HX:=Hi (fun W=>LG.rrel_any (str o) a b W)
 have HRL:=Hi (fun W=>rRels o W)
 have hq:=relOps_not o ho;obtain⟨hq0,hq1,hq2,hq3,hq4⟩:=hq;rw[hq0]at HRL;have e1:=word_ne hq1;have e2:=word_ne hq2;have e3:=word_ne hq3;have e4:=word_ne hq4;unfold wAnd at e1;unfold wOr at e2;unfold wJoin at e3;unfold wLike at e4;clear hq0 hq1 hq2 hq3 hq4
 show Calls Tryz.prog 65 _ w (VR w (LG.relR (str o) a b) (LG.relE (str o) a b))
 generalize LG.relR (str o) a b=R at *;generalize LG.relE (str o) a b=er at *;generalize str o=bo at *;obtain⟨W1,hW1⟩:∃ W1,W1=((w.alloc (.cells #[.int .i64 a.k,.int .i64 a.i,.string a.s] 26)).alloc (.cells #[.int .i64 b.k,.int .i64 b.i,.string b.s] 26)).alloc (.cells #[.int .i64 0,.int .i64 0,.string ⟨#[]⟩] 26):=⟨_,rfl⟩;have HH:Hid (HV w [(w.heap.size+2,zW),(w.heap.size+1,b),(w.heap.size,a)] W1):=Hi (by rw[hW1];exact(((HV.nil w).push a).pushAt (by simp) b).pushAt (by simp) zW)
 have HW1:=Hi hW1;obtain⟨v0,v1,v2⟩:=HH.out.tail.tail.box.cells;obtain⟨u0,u1,u2⟩:=HH.out.tail.box.cells;dsimp only at v0 v1 v2 u0 u1 u2;clear hW1;go_enter Tryz.func65,Tryz.ntmps65
 go_wp2_with (rw[←HW1.out])
 refine(HRL.out W1).mono ?_;rintro q w2 ⟨rfl,b2⟩;have H2:=Hi (HH.out.call b2);obtain⟨v0,v1,v2⟩:=H2.out.tail.tail.box.cells;obtain⟨u0,u1,u2⟩:=H2.out.tail.box.cells;dsimp only at v0 v1 v2 u0 u1 u2;clear b2 HRL;go_wp2_with fail;refine(HX.out w2).mono ?_;rintro q w3 ⟨rfl,b3⟩;have H3:=Hi (H2.out.call b3);obtain⟨g0,g1,g2⟩:=H3.out.box.cells;obtain⟨k0,k1,k2⟩:=H3.out.box.free;simp only[zW]at g0 g1 g2;go_wp2_with fail;exact bodyPost_ret (v:= .tuple #[.agg #[.int .i64 R.k,.int .i64 R.i,.string R.s],.int .i64 er]) (by simp[results,Tryz.results65,go_sem,g0,g1,g2]) rfl ⟨rfl,vset3 H3.out.below (by omega) _ _ _⟩
theorem r2_ar(o:List UInt8)(ho:o∈arOps)(a b:BV.V)(w:World)(h1:I64 a)(h2:I64 b):Calls Tryz.prog 65 #[.string (str o),.agg #[.int .i64 a.k,.int .i64 a.i,.string a.s],.agg #[.int .i64 b.k,.int .i64 b.i,.string b.s]] w (VR w (((SC.arE (str o) a b,SC.arV (str o) a b):Ans)).2 (((SC.arE (str o) a b,SC.arV (str o) a b):Ans)).1):=by
 have HX:=Hi (fun W=>SC.rarith_any (str o) a b W (by unfold SC.In64;exact h1) (by unfold SC.In64;exact h2))
 have HRL:=Hi (fun W=>rRels o W)
 have hq:=arOps_not o ho;obtain⟨hq0,hq1,hq2,hq3,hq4⟩:=hq;rw[hq0]at HRL;have e1:=word_ne hq1;have e2:=word_ne hq2;have e3:=word_ne hq3;have e4:=word_ne hq4;unfold wAnd at e1;unfold wOr at e2;unfold wJoin at e3;unfold wLike at e4;clear hq0 hq1 hq2 hq3 hq4
 show Calls Tryz.prog 65 _ w (VR w (SC.arV (str o) a b) (SC.arE (str o) a b))
 generalize SC.arV (str o) a b=R at *;generalize SC.arE (str o) a b=er at *;generalize str o=bo at *;obtain⟨W1,hW1⟩:∃ W1,W1=((w.alloc (.cells #[.int .i64 a.k,.int .i64 a.i,.string a.s] 26)).alloc (.cells #[.int .i64 b.k,.int .i64 b.i,.string b.s] 26)).alloc (.cells #[.int .i64 0,.int .i64 0,.string ⟨#[]⟩] 26):=⟨_,rfl⟩;have HH:Hid (HV w [(w.heap.size+2,zW),(w.heap.size+1,b),(w.heap.size,a)] W1):=Hi (by rw[hW1];exact(((HV.nil w).push a).pushAt (by simp) b).pushAt (by simp) zW)
 have HW1:=Hi hW1;obtain⟨v0,v1,v2⟩:=HH.out.tail.tail.box.cells;obtain⟨u0,u1,u2⟩:=HH.out.tail.box.cells;dsimp only at v0 v1 v2 u0 u1 u2;clear hW1;go_enter Tryz.func65,Tryz.ntmps65
 go_wp2_with (rw[←HW1.out])
 refine(HRL.out W1).mono ?_;rintro q w2 ⟨rfl,b2⟩;have H2:=Hi (HH.out.call b2);obtain⟨v0,v1,v2⟩:=H2.out.tail.tail.box.cells;obtain⟨u0,u1,u2⟩:=H2.out.tail.box.cells;dsimp only at v0 v1 v2 u0 u1 u2;clear b2 HRL;go_wp2_with fail;refine(HX.out w2).mono ?_;rintro q w3 ⟨rfl,b3⟩;have H3:=Hi (H2.out.call b3);obtain⟨g0,g1,g2⟩:=H3.out.box.cells;obtain⟨k0,k1,k2⟩:=H3.out.box.free;simp only[zW]at g0 g1 g2;go_wp2_with fail;exact bodyPost_ret (v:= .tuple #[.agg #[.int .i64 R.k,.int .i64 R.i,.string R.s],.int .i64 er]) (by simp[results,Tryz.results65,go_sem,g0,g1,g2]) rfl ⟨rfl,vset3 H3.out.below (by omega) _ _ _⟩
theorem rl_null0(a b:BV.V)(w:World)(ha0:a.k=0):Calls Tryz.prog 65 #[.string ⟨#[108,105,107,101]⟩,.agg #[.int .i64 a.k,.int .i64 a.i,.string a.s],.agg #[.int .i64 b.k,.int .i64 b.i,.string b.s]] w (VR w (zW) 0):=by
 have HRL:=Hi (fun W=>rRels [108,105,107,101] W)
 rw[show decide ([108,105,107,101]∈lsRels)=false by decide,show str [108,105,107,101]=⟨#[108,105,107,101]⟩ from rfl]at HRL
 obtain⟨W1,hW1⟩:∃ W1,W1=((w.alloc (.cells #[.int .i64 a.k,.int .i64 a.i,.string a.s] 26)).alloc (.cells #[.int .i64 b.k,.int .i64 b.i,.string b.s] 26)).alloc (.cells #[.int .i64 0,.int .i64 0,.string ⟨#[]⟩] 26):=⟨_,rfl⟩;have HH:Hid (HV w [(w.heap.size+2,zW),(w.heap.size+1,b),(w.heap.size,a)] W1):=Hi (by rw[hW1];exact(((HV.nil w).push a).pushAt (by simp) b).pushAt (by simp) zW)
 have HW1:=Hi hW1;obtain⟨v0,v1,v2⟩:=HH.out.tail.tail.box.cells;obtain⟨u0,u1,u2⟩:=HH.out.tail.box.cells;dsimp only at v0 v1 v2 u0 u1 u2;clear hW1;have ea:(a.k == 0)=true:=by simp[ha0]
 clear ha0;go_enter Tryz.func65,Tryz.ntmps65
 go_wp2_with (rw[←HW1.out])
 refine(HRL.out W1).mono ?_;rintro q w2 ⟨rfl,b2⟩;have H2:=Hi (HH.out.call b2);obtain⟨v0,v1,v2⟩:=H2.out.tail.tail.box.cells;obtain⟨u0,u1,u2⟩:=H2.out.tail.box.cells;dsimp only at v0 v1 v2 u0 u1 u2;clear b2 HRL;obtain⟨g0,g1,g2⟩:=H2.out.box.cells;obtain⟨k0,k1,k2⟩:=H2.out.box.free;simp only[zW]at g0 g1 g2;go_wp2_with fail;exact bodyPost_ret (v:= .tuple #[.agg #[.int .i64 0,.int .i64 0,.string ⟨#[]⟩],.int .i64 0]) (by simp[results,Tryz.results65,go_sem,g0,g1,g2]) rfl ⟨rfl,vset3 H2.out.below (by omega) _ _ _⟩
theorem rl_null1(a b:BV.V)(w:World)(ha0:¬a.k=0)(hb0:b.k=0):Calls Tryz.prog 65 #[.string ⟨#[108,105,107,101]⟩,.agg #[.int .i64 a.k,.int .i64 a.i,.string a.s],.agg #[.int .i64 b.k,.int .i64 b.i,.string b.s]] w (VR w (zW) 0):=by
 have HRL:=Hi (fun W=>rRels [108,105,107,101] W)
 rw[show decide ([108,105,107,101]∈lsRels)=false by decide,show str [108,105,107,101]=⟨#[108,105,107,101]⟩ from rfl]at HRL
 obtain⟨W1,hW1⟩:∃ W1,W1=((w.alloc (.cells #[.int .i64 a.k,.int .i64 a.i,.string a.s] 26)).alloc (.cells #[.int .i64 b.k,.int .i64 b.i,.string b.s] 26)).alloc (.cells #[.int .i64 0,.int .i64 0,.string ⟨#[]⟩] 26):=⟨_,rfl⟩;have HH:Hid (HV w [(w.heap.size+2,zW),(w.heap.size+1,b),(w.heap.size,a)] W1):=Hi (by rw[hW1];exact(((HV.nil w).push a).pushAt (by simp) b).pushAt (by simp) zW)
 have HW1:=Hi hW1;obtain⟨v0,v1,v2⟩:=HH.out.tail.tail.box.cells;obtain⟨u0,u1,u2⟩:=HH.out.tail.box.cells;dsimp only at v0 v1 v2 u0 u1 u2;clear hW1;have ea:(a.k == 0)=false:=by simpa using ha0
 have eb:(b.k == 0)=true:=by simp[hb0]
 clear ha0 hb0;go_enter Tryz.func65,Tryz.ntmps65
 go_wp2_with (rw[←HW1.out])
 refine(HRL.out W1).mono ?_;rintro q w2 ⟨rfl,b2⟩;have H2:=Hi (HH.out.call b2);obtain⟨v0,v1,v2⟩:=H2.out.tail.tail.box.cells;obtain⟨u0,u1,u2⟩:=H2.out.tail.box.cells;dsimp only at v0 v1 v2 u0 u1 u2;clear b2 HRL;obtain⟨g0,g1,g2⟩:=H2.out.box.cells;obtain⟨k0,k1,k2⟩:=H2.out.box.free;simp only[zW]at g0 g1 g2;go_wp2_with fail;exact bodyPost_ret (v:= .tuple #[.agg #[.int .i64 0,.int .i64 0,.string ⟨#[]⟩],.int .i64 0]) (by simp[results,Tryz.results65,go_sem,g0,g1,g2]) rfl ⟨rfl,vset3 H2.out.below (by omega) _ _ _⟩
theorem rl_type0(a b:BV.V)(w:World)(ha0:¬a.k=0)(hb0:¬b.k=0)(ha3:¬a.k=3):Calls Tryz.prog 65 #[.string ⟨#[108,105,107,101]⟩,.agg #[.int .i64 a.k,.int .i64 a.i,.string a.s],.agg #[.int .i64 b.k,.int .i64 b.i,.string b.s]] w (VR w (zW) 20):=by
 have HRL:=Hi (fun W=>rRels [108,105,107,101] W)
 rw[show decide ([108,105,107,101]∈lsRels)=false by decide,show str [108,105,107,101]=⟨#[108,105,107,101]⟩ from rfl]at HRL
 obtain⟨W1,hW1⟩:∃ W1,W1=((w.alloc (.cells #[.int .i64 a.k,.int .i64 a.i,.string a.s] 26)).alloc (.cells #[.int .i64 b.k,.int .i64 b.i,.string b.s] 26)).alloc (.cells #[.int .i64 0,.int .i64 0,.string ⟨#[]⟩] 26):=⟨_,rfl⟩;have HH:Hid (HV w [(w.heap.size+2,zW),(w.heap.size+1,b),(w.heap.size,a)] W1):=Hi (by rw[hW1];exact(((HV.nil w).push a).pushAt (by simp) b).pushAt (by simp) zW)
 have HW1:=Hi hW1;obtain⟨v0,v1,v2⟩:=HH.out.tail.tail.box.cells;obtain⟨u0,u1,u2⟩:=HH.out.tail.box.cells;dsimp only at v0 v1 v2 u0 u1 u2;clear hW1;have ea:(a.k == 0)=false:=by simpa using ha0
 have eb:(b.k == 0)=false:=by simpa using hb0
 have fa:(a.k != 3)=true:=by simpa using ha3
 clear ha0 hb0 ha3;go_enter Tryz.func65,Tryz.ntmps65
 go_wp2_with (rw[←HW1.out])
 refine(HRL.out W1).mono ?_;rintro q w2 ⟨rfl,b2⟩;have H2:=Hi (HH.out.call b2);obtain⟨v0,v1,v2⟩:=H2.out.tail.tail.box.cells;obtain⟨u0,u1,u2⟩:=H2.out.tail.box.cells;dsimp only at v0 v1 v2 u0 u1 u2;clear b2 HRL;obtain⟨g0,g1,g2⟩:=H2.out.box.cells;obtain⟨k0,k1,k2⟩:=H2.out.box.free;simp only[zW]at g0 g1 g2;go_wp2_with fail;exact bodyPost_ret (v:= .tuple #[.agg #[.int .i64 0,.int .i64 0,.string ⟨#[]⟩],.int .i64 20]) (by simp[results,Tryz.results65,go_sem,g0,g1,g2]) rfl ⟨rfl,vset3 H2.out.below (by omega) _ _ _⟩
theorem rl_type1(a b:BV.V)(w:World)(ha0:¬a.k=0)(hb0:¬b.k=0)(ha3:a.k=3)(hb3:¬b.k=3):Calls Tryz.prog 65 #[.string ⟨#[108,105,107,101]⟩,.agg #[.int .i64 a.k,.int .i64 a.i,.string a.s],.agg #[.int .i64 b.k,.int .i64 b.i,.string b.s]] w (VR w (zW) 20):=by
 have HRL:=Hi (fun W=>rRels [108,105,107,101] W)
 rw[show decide ([108,105,107,101]∈lsRels)=false by decide,show str [108,105,107,101]=⟨#[108,105,107,101]⟩ from rfl]at HRL
 obtain⟨W1,hW1⟩:∃ W1,W1=((w.alloc (.cells #[.int .i64 a.k,.int .i64 a.i,.string a.s] 26)).alloc (.cells #[.int .i64 b.k,.int .i64 b.i,.string b.s] 26)).alloc (.cells #[.int .i64 0,.int .i64 0,.string ⟨#[]⟩] 26):=⟨_,rfl⟩;have HH:Hid (HV w [(w.heap.size+2,zW),(w.heap.size+1,b),(w.heap.size,a)] W1):=Hi (by rw[hW1];exact(((HV.nil w).push a).pushAt (by simp) b).pushAt (by simp) zW)
 have HW1:=Hi hW1;obtain⟨v0,v1,v2⟩:=HH.out.tail.tail.box.cells;obtain⟨u0,u1,u2⟩:=HH.out.tail.box.cells;dsimp only at v0 v1 v2 u0 u1 u2;clear hW1;have ea:(a.k == 0)=false:=by simpa using ha0
 have eb:(b.k == 0)=false:=by simpa using hb0
 have fa:(a.k != 3)=false:=by simp[ha3]
 have fb:(b.k != 3)=true:=by simpa using hb3
 clear ha0 hb0 ha3 hb3;go_enter Tryz.func65,Tryz.ntmps65
 go_wp2_with (rw[←HW1.out])
 refine(HRL.out W1).mono ?_;rintro q w2 ⟨rfl,b2⟩;have H2:=Hi (HH.out.call b2);obtain⟨v0,v1,v2⟩:=H2.out.tail.tail.box.cells;obtain⟨u0,u1,u2⟩:=H2.out.tail.box.cells;dsimp only at v0 v1 v2 u0 u1 u2;clear b2 HRL;obtain⟨g0,g1,g2⟩:=H2.out.box.cells;obtain⟨k0,k1,k2⟩:=H2.out.box.free;simp only[zW]at g0 g1 g2;go_wp2_with fail;exact bodyPost_ret (v:= .tuple #[.agg #[.int .i64 0,.int .i64 0,.string ⟨#[]⟩],.int .i64 20]) (by simp[results,Tryz.results65,go_sem,g0,g1,g2]) rfl ⟨rfl,vset3 H2.out.below (by omega) _ _ _⟩
theorem rl_none(a b:BV.V)(w:World)(ha0:¬a.k=0)(hb0:¬b.k=0)(ha3:a.k=3)(hb3:b.k=3)(h1:a.s.size≤100000000)(h2:b.s.size≤100000000)(hr:LK.rd b.s.data.toList=none):Calls Tryz.prog 65 #[.string ⟨#[108,105,107,101]⟩,.agg #[.int .i64 a.k,.int .i64 a.i,.string a.s],.agg #[.int .i64 b.k,.int .i64 b.i,.string b.s]] w (VR w (zW) 40):=by
 have HRL:=Hi (fun W=>rRels [108,105,107,101] W)
 rw[show decide ([108,105,107,101]∈lsRels)=false by decide,show str [108,105,107,101]=⟨#[108,105,107,101]⟩ from rfl]at HRL
 obtain⟨W1,hW1⟩:∃ W1,W1=((w.alloc (.cells #[.int .i64 a.k,.int .i64 a.i,.string a.s] 26)).alloc (.cells #[.int .i64 b.k,.int .i64 b.i,.string b.s] 26)).alloc (.cells #[.int .i64 0,.int .i64 0,.string ⟨#[]⟩] 26):=⟨_,rfl⟩;have HH:Hid (HV w [(w.heap.size+2,zW),(w.heap.size+1,b),(w.heap.size,a)] W1):=Hi (by rw[hW1];exact(((HV.nil w).push a).pushAt (by simp) b).pushAt (by simp) zW)
 have HW1:=Hi hW1;obtain⟨v0,v1,v2⟩:=HH.out.tail.tail.box.cells;obtain⟨u0,u1,u2⟩:=HH.out.tail.box.cells;dsimp only at v0 v1 v2 u0 u1 u2;clear hW1;have ea:(a.k == 0)=false:=by simpa using ha0
 have eb:(b.k == 0)=false:=by simpa using hb0
 have fa:(a.k != 3)=false:=by simp[ha3]
 have fb:(b.k != 3)=false:=by simp[hb3]
 clear ha0 hb0 ha3 hb3;have HX:=Hi (fun W=>LK.rlike_none a.s b.s W h2 hr)
 go_enter Tryz.func65,Tryz.ntmps65
 go_wp2_with (rw[←HW1.out])
 refine(HRL.out W1).mono ?_;rintro q w2 ⟨rfl,b2⟩;have H2:=Hi (HH.out.call b2);obtain⟨v0,v1,v2⟩:=H2.out.tail.tail.box.cells;obtain⟨u0,u1,u2⟩:=H2.out.tail.box.cells;dsimp only at v0 v1 v2 u0 u1 u2;clear b2 HRL;go_wp2_with fail;refine(HX.out w2).mono ?_;rintro q w4 ⟨rfl,b4⟩;have H2:=Hi (H2.out.call b4);clear b4 HX;obtain⟨g0,g1,g2⟩:=H2.out.box.cells;obtain⟨k0,k1,k2⟩:=H2.out.box.free;simp only[zW]at g0 g1 g2;go_wp2_with fail;exact bodyPost_ret (v:= .tuple #[.agg #[.int .i64 0,.int .i64 0,.string ⟨#[]⟩],.int .i64 40]) (by simp[results,Tryz.results65,go_sem,g0,g1,g2]) rfl ⟨rfl,vset3 H2.out.below (by omega) _ _ _⟩
theorem rl_some(a b:BV.V)(w:World)(ha0:¬a.k=0)(hb0:¬b.k=0)(ha3:a.k=3)(hb3:b.k=3)(h1:a.s.size≤100000000)(h2:b.s.size≤100000000)(us:List Int)(hr:LK.rd b.s.data.toList=some us):Calls Tryz.prog 65 #[.string ⟨#[108,105,107,101]⟩,.agg #[.int .i64 a.k,.int .i64 a.i,.string a.s],.agg #[.int .i64 b.k,.int .i64 b.i,.string b.s]] w (VR w (tru (LK.M us a.s.data.toList)) 0):=by
 have HRL:=Hi (fun W=>rRels [108,105,107,101] W)
 rw[show decide ([108,105,107,101]∈lsRels)=false by decide,show str [108,105,107,101]=⟨#[108,105,107,101]⟩ from rfl]at HRL
 obtain⟨W1,hW1⟩:∃ W1,W1=((w.alloc (.cells #[.int .i64 a.k,.int .i64 a.i,.string a.s] 26)).alloc (.cells #[.int .i64 b.k,.int .i64 b.i,.string b.s] 26)).alloc (.cells #[.int .i64 0,.int .i64 0,.string ⟨#[]⟩] 26):=⟨_,rfl⟩;have HH:Hid (HV w [(w.heap.size+2,zW),(w.heap.size+1,b),(w.heap.size,a)] W1):=Hi (by rw[hW1];exact(((HV.nil w).push a).pushAt (by simp) b).pushAt (by simp) zW)
 have HW1:=Hi hW1;obtain⟨v0,v1,v2⟩:=HH.out.tail.tail.box.cells;obtain⟨u0,u1,u2⟩:=HH.out.tail.box.cells;dsimp only at v0 v1 v2 u0 u1 u2;clear hW1;have ea:(a.k == 0)=false:=by simpa using ha0
 have eb:(b.k == 0)=false:=by simpa using hb0
 have fa:(a.k != 3)=false:=by simp[ha3]
 have fb:(b.k != 3)=false:=by simp[hb3]
 clear ha0 hb0 ha3 hb3;have HX:=Hi (fun W=>LK.rlike_some a.s b.s us W h1 h2 hr)
 rw[←tru_bi];generalize LK.M us a.s.data.toList=B at *;go_enter Tryz.func65,Tryz.ntmps65
 go_wp2_with (rw[←HW1.out])
 refine(HRL.out W1).mono ?_;rintro q w2 ⟨rfl,b2⟩;have H2:=Hi (HH.out.call b2);obtain⟨v0,v1,v2⟩:=H2.out.tail.tail.box.cells;obtain⟨u0,u1,u2⟩:=H2.out.tail.box.cells;dsimp only at v0 v1 v2 u0 u1 u2;clear b2 HRL;go_wp2_with fail;refine(HX.out w2).mono ?_;rintro q w4 ⟨rfl,b4⟩;have H2:=Hi (H2.out.call b4);clear b4 HX;go_wp2_with fail;refine(LG.bool1_any B w4).mono ?_;rintro q w3 ⟨rfl,b3⟩;have H3:=Hi (H2.out.call b3);obtain⟨g0,g1,g2⟩:=H3.out.box.cells;obtain⟨k0,k1,k2⟩:=H3.out.box.free;simp only[zW]at g0 g1 g2;go_wp2_with fail;exact bodyPost_ret (v:= .tuple #[.agg #[.int .i64 1,.int .i64 (LG.bi B),.string ⟨#[]⟩],.int .i64 0]) (by simp[results,Tryz.results65,go_sem,g0,g1,g2]) rfl ⟨rfl,vset3 H3.out.below (by omega) _ _ _⟩
theorem r2_like(a b:BV.V)(w:World)(h1:a.s.size≤100000000)(h2:b.s.size≤100000000):Calls Tryz.prog 65 #[.string ⟨#[108,105,107,101]⟩,.agg #[.int .i64 a.k,.int .i64 a.i,.string a.s],.agg #[.int .i64 b.k,.int .i64 b.i,.string b.s]] w (VR w (dLike a b).2 (dLike a b).1):=by
 unfold dLike
 by_cases ha0:a.k=0
 ·rw[if_pos (.inl ha0)];exact rl_null0 a b w ha0
 by_cases hb0:b.k=0
 ·rw[if_pos (.inr hb0)];exact rl_null1 a b w ha0 hb0
 rw[if_neg (by rintro(h | h);exact ha0 h;exact hb0 h)]
 by_cases ha3:a.k=3
 ·by_cases hb3:b.k=3
  ·rw[if_neg (by rintro(h | h);exact h ha3;exact h hb3)]
   cases hr:LK.rd b.s.data.toList with
   | none=>exact rl_none a b w ha0 hb0 ha3 hb3 h1 h2 hr
   | some us=>exact rl_some a b w ha0 hb0 ha3 hb3 h1 h2 us hr
  ·rw[if_pos (.inr hb3)];exact rl_type1 a b w ha0 hb0 ha3 hb3
 ·rw[if_pos (.inl ha3)];exact rl_type0 a b w ha0 hb0 ha3
end Go.Proofs.YtcicpjgnpcnnmaaGreatDoor
namespace Go.Proofs.YtcicpjgnpcnnmaaGreatDoor
open Go.RowKit
theorem opP_word{d:Deeds}{o n:List UInt8}{v:Vl}{r vs:List BV.V}(h1:o≠wLit)(h2:o≠wAt):opP d o n v r vs=d o n vs:=by rw[opP,if_neg h1,if_neg h2]
theorem ops1_not{o:List UInt8}(h:o∈ops1):o≠wLit∧o≠wAt∧o≠wCall:=by
 revert o;unfold ops1;decide
theorem ops2_not{o:List UInt8}(h:o∈ops2):o≠wLit∧o≠wAt∧o≠wCall∧o≠wIn:=by
 revert o;unfold ops2;decide
theorem r1_any(o n:List UInt8)(a:BV.V)(w:World)(ho:o∈ops1)(ha:I64 a):Calls Tryz.prog 64 #[.string (str o),.agg #[.int .i64 a.k,.int .i64 a.i,.string a.s]] w (VR w (deedP o n [a]).2 (deedP o n [a]).1):=by
 simp only[ops1,List.mem_cons,List.not_mem_nil,or_false]at ho;rcases ho with rfl | rfl | rfl | rfl
 ·rw[dp_wNeg];exact r1_neg a w ha
 ·rw[dp_wNot];exact r1_not a w
 ·rw[dp_wIsnull];exact r1_isnull a w
 ·rw[dp_wNotnull];exact r1_notnull a w
theorem r2_any(o n:List UInt8)(a b:BV.V)(w:World)(ho:o∈ops2)(ha:I64 a)(hb:I64 b)(h1:a.s.size≤100000000)(h2:b.s.size≤100000000) :
  Calls Tryz.prog 65 #[.string (str o),.agg #[.int .i64 a.k,.int .i64 a.i,.string a.s],.agg #[.int .i64 b.k,.int .i64 b.i,.string b.s]] w (VR w (deedP o n [a,b]).2 (deedP o n [a,b]).1):=by
 simp only[ops2,List.mem_cons,List.not_mem_nil,or_false]at ho;rcases ho with rfl | rfl | rfl | rfl | rfl | rfl | rfl | rfl | rfl | rfl | rfl | rfl | rfl | rfl | rfl
 ·rw[dp_wAnd];exact r2_and a b w
 ·rw[dp_wOr];exact r2_or a b w
 ·rw[dp_rel n _ (by decide)];exact r2_rel _ (by decide) a b w
 ·rw[dp_rel n _ (by decide)];exact r2_rel _ (by decide) a b w
 ·rw[dp_rel n _ (by decide)];exact r2_rel _ (by decide) a b w
 ·rw[dp_rel n _ (by decide)];exact r2_rel _ (by decide) a b w
 ·rw[dp_rel n _ (by decide)];exact r2_rel _ (by decide) a b w
 ·rw[dp_rel n _ (by decide)];exact r2_rel _ (by decide) a b w
 ·rw[dp_ar n _ (by decide)];exact r2_ar _ (by decide) a b w ha hb
 ·rw[dp_ar n _ (by decide)];exact r2_ar _ (by decide) a b w ha hb
 ·rw[dp_ar n _ (by decide)];exact r2_ar _ (by decide) a b w ha hb
 ·rw[dp_ar n _ (by decide)];exact r2_ar _ (by decide) a b w ha hb
 ·rw[dp_ar n _ (by decide)];exact r2_ar _ (by decide) a b w ha hb
 ·rw[show([124,124]:List UInt8)=wJoin from rfl,dp_wJoin];exact r2_join a b w h1 h2
 ·rw[dp_wLike];exact r2_like a b w h1 h2
theorem two_one{o:List UInt8}(h:o∈ops2):o∉ops1:=by
 revert o;unfold ops1 ops2;decide
inductive Sort6 (W:Int) (o:List UInt8) (v:Vl) (n:List UInt8) (l:List E):Prop
 | lit (h:o=wLit) (h0:l = [])
 | «at» (h:o=wAt) (h0:l = []) (h1:0≤v.i) (h2:v.i < W)
 | call (h:o=wCall)
 | one (h:o∈ops1) (h0:l.length=1)
 | two (h:o∈ops2) (h0:l.length=2)
 | btw (h:o=wBetween) (h0:l.length=3)
 | isin (h:o=wIn) (h0:2≤l.length)
theorem good_sort{W:Int}{o:List UInt8}{v:Vl}{t n:List UInt8}{l:List E}(h:(E.mk o v t n l).good W=true):Sort6 W o v n l:=by
 by_cases ho:o=wAt
 ·subst ho
  obtain⟨-,-,h3,h4,-,-,h7⟩:=good_at h;exact .at rfl h7 h3 h4
 ·simp only[E.good,if_neg ho]at h
  split at h
  ·rename_i h1
   simp only[Bool.and_eq_true,List.isEmpty_iff]at h;exact .lit h1 h.1.2
  ·split at h
   ·simp at h
   ·split at h
    ·rename_i h3
     exact .call h3
    ·simp only[Bool.and_eq_true,decide_eq_true_eq]at h
     obtain⟨⟨⟨-,h1⟩,h2⟩,-⟩:=h
     by_cases c:o∈allOps
     ·unfold allOps at c
      simp only[List.mem_append,List.mem_cons,List.not_mem_nil,or_false]at c;rcases c with (c | c) | c | c
      ·have e1:least o=1:=by unfold least;rw[if_pos c]
       have e2:most o=1:=by unfold most;rw[if_pos c]
       exact .one c (by omega)
      ·have c1:o∉ops1:=two_one c
       have e1:least o=2:=by unfold least;rw[if_neg c1,if_pos c]
       have e2:most o=2:=by unfold most;rw[if_neg c1,if_pos c]
       exact .two c (by omega)
      ·subst c
       have e1:least wBetween=3:=by decide
       have e2:most wBetween=3:=by decide
       exact .btw rfl (by omega)
      ·subst c
       have e1:least wIn=2:=by decide
       exact .isin rfl (by omega)
     ·obtain⟨e1,e2⟩:=many_none c
      omega
end Go.Proofs.YtcicpjgnpcnnmaaGreatDoor
