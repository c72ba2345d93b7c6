import Derived.Test.YtcicpjgnpcnnmaaGreatDoorQ70
import Derived.Test.YtcicpjgnpcnnmaaGreatDoorQ41
import Derived.Test.YtcicpjgnpcnnmaaGreatDoorQ40
set_option linter.unusedSimpArgs false
set_option linter.unusedVariables false
set_option maxRecDepth 100000
set_option maxHeartbeats 32000000
namespace Go.Proofs.YtcicpjgnpcnnmaaGreatDoor
open Go.RowKit
def eP(es:List E)(l:List (List BV.V)):Int:=firstE (l.map (projE es))
def pP(es:List E)(l:List (List BV.V)):List (List BV.V):=if eP es l=0 then l.map (projV es)else []
theorem projE_la{l:List (List BV.V)}{A K:Option Addr}{n ca kc m:Nat}{es:List E}{S:Nat→Prop}{w:World}(ha:LA w A n ca l)(hs:Sub S w (.mk [] v0 [] [] es) K kc)(hE:SC.Env w)(hm:m=es.length)(hn:n≤100000)(hl:es.length≤2000)(hw:∀ r∈l,r.length≤100000)(hf:∀ r∈l,∀ e∈es,e.fit deedP r) :
  Calls Tryz.prog 12 #[.slice A n ca,.slice K m kc] w (ToldR w (eP es l) (pP es l)):=by
 obtain⟨rs,rfl,h2,-,h3,-⟩:=ha;have h:=project_any rs A K ca kc es v0 S w h3 hs hE hn hl (mem_xs h2 hw) (mem_xs h2 hf);rw[h2]at h;rw[hm];exact h.mono fun _ _ h=>told_E h
theorem rprojE_la{l:List (List BV.V)}{A K:Option Addr}{n ca kc m:Nat}{es:List E}{S:Nat→Prop}{w:World}(ha:LA w A n ca l)(hs:Sub S w (.mk [] v0 [] [] es) K kc)(hm:m=es.length)(hn:n≤100000)(hl:es.length≤2000)(hw:∀ r∈l,r.length≤100000)(hf:∀ r∈l,∀ e∈es,e.fit deedP r)(hg:∀ r∈l,∀ e∈es,e.good r.length=true∧e.size≤900) :
  Calls Tryz.prog 13 #[.slice A n ca,.slice K m kc] w (ToldR w (eP es l) (pP es l)):=by
 obtain⟨rs,rfl,h2,-,h3,-⟩:=ha;have h:=rproject_any rs A K ca kc es v0 S w h3 hs hn hl (mem_xs h2 hw) (mem_xs h2 hf) (mem_xs (p:=fun x=>∀ e∈es,e.good x.length=true∧e.size≤900) h2 hg)
 rw[h2]at h;rw[hm];exact h.mono fun _ _ h=>told_E h
theorem rfilt_la{a:List (List BV.V)}{A:Option Addr}{n ca:Nat}{S:Nat→Prop}{e:E}{x:Value}{w:World}(ha:LA w A n ca a)(hx:EAt S w e x)(hla:n≤100000)(hwa:∀ r∈a,r.length≤100000)(hf:∀ x∈a,e.fit deedP x)(hg:∀ x∈a,e.good x.length=true)(hz:e.size≤900) :
  Calls Tryz.prog 11 #[.slice A n ca,x] w (ToldR w (errsP (truP e) a) (FRes (truP e) a)):=by
 have hk:AskI w x (truP e) a:=fun r h1 W A c hb hr=>rtruth_e r (hwa r h1) e x S W A c (hx.later hb) hr (hf r h1) (hg r h1) hz
 obtain⟨A1,c1,rfl,hs⟩:=hx;obtain⟨ra,rfl,rfl,-,h1,h2⟩:=ha;unfold eVal at hk ⊢;exact rfilter_any ra A ca _ _ _ _ _ _ _ (truP e) w h1 hla (mem_xs rfl hwa) h2 hk
theorem samel_la{a b:List (List BV.V)}{A B:Option Addr}{n ca m cb:Nat}{w:World}(er:Int)(ha:LA w A n ca a)(hb:LA w B m cb b)(he:a=b)(hla:n≤1000000)(hwa:∀ r∈a,r.length≤100000) :
  Calls Tryz.prog 16 #[.slice A n ca,.int .i64 er,.slice B m cb,.int .i64 er] w fun q w'=>q = .returned (.bool true)∧Below w.heap.size w w':=by
 have HS:=Hi (same_la ha hb he hla hwa);clear ha hb he hla hwa;go_enter Tryz.func16,Tryz.ntmps16;go_wp2_with fail;refine(HS.out).mono ?_;rintro q w2 ⟨rfl,b2⟩;go_wp2_with fail
 go_ret
 exact⟨rfl,b2⟩
theorem LA.rowAt{w:World}{A:Option Addr}{n c:Nat}{l:List (List BV.V)}(h:LA w A n c l){k:Nat}(hk:k < n):∃ (h1:k < l.length)(b off:Nat)(r:BV.R),A=some ⟨b,off,none⟩∧b < w.heap.size∧w.cell? ⟨b,off+k,none⟩=some (.slice r.A r.xs.length r.c)∧r.xs=l[k]∧BV.RowAt w w.heap.size r.A r.xs:=by
 obtain⟨rs,rfl,rfl,-,h3,-⟩:=h;obtain⟨b,off,hA,hlt,hc⟩:=h3.1 (by omega)
 exact⟨by rw[List.length_map];exact hk,b,off,rs[k],hA,hlt,hc k hk,by rw[List.getElem_map],h3.2 _ (List.getElem_mem hk)⟩
structure Fl(e:E)(l:List (List BV.V)):Prop where
 many:l.length≤30
 wide:∀ r∈l,r.length≤60
 fit:∀ r∈l,e.fit deedP r
 good:∀ r∈l,e.good r.length=true
 size:e.size≤900
theorem fl_of{rs:List BV.R}(h:evOk rs=true)(hi:∀ r∈rs,∀ v∈r.xs,-9223372036854775808≤v.i∧v.i≤9223372036854775807)(w:Nat)(hw:w≤5){e:E}(ho:okB (w:Int) e=true)(hin:e.ints=true):Fl e ((rs.map BV.R.xs).map (evR w)):=by
 have B:=bg_of h hi w hw ho hin;obtain⟨h1,-,h3,-⟩:=okB_facts ho;exact⟨B.many,B.wide,B.fit,fun r hr=>by rw[(ev_of h hi w).wide r hr];exact h3,by omega⟩
theorem fres_wide{e:E}{l:List (List BV.V)}(F:Fl e l):∀ r∈FRes (truP e) l,r.length≤100000:=fun r hr=>by
 have:=F.wide r (fres_mem hr);omega
theorem pP_len(es:List E)(l:List (List BV.V)):(pP es l).length≤l.length:=by
 unfold pP
 split
 ·simp
 ·simp
theorem pP_wide(es:List E)(l:List (List BV.V)):∀ r∈pP es l,r.length≤es.length:=by
 intro r hr;unfold pP at hr
 split at hr
 ·obtain⟨x,-,rfl⟩:=List.mem_map.1 hr
  simp[projV]
 ·simp at hr
theorem filters_law(rs:List BV.R)(e f:E)(W1:Int)(A:Option Addr)(ca:Nat)(xv yv:Value)(S:Nat→Prop)(w:World)(hE:SC.Env w)(hE':BV.Env w)(ha:BV.RowsAt w w.heap.size A rs)(hla:rs.length≤140737488355328)(hsa:BV.Small rs)(hca:∀ r∈rs,r.xs.length≤r.c)
  (hia:∀ r∈rs,∀ v∈r.xs,-9223372036854775808≤v.i∧v.i≤9223372036854775807)(hx:EAt S w e xv)(hy:EAt S w f yv)(hin:e.ints=true)(hin2:f.ints=true) :
  Calls Tryz.prog 3 #[.agg #[.int .i64 W1,.slice A rs.length ca],xv,yv] w fun q w'=>q = .returned (.bool true)∧Below w.heap.size w w':=by
 obtain⟨A7,c7,rfl,hs7⟩:=hx;obtain⟨A8,c8,rfl,hs8⟩:=hy;have hEV1:=Hi (fun W (hb:Below w.heap.size w W)=>even_la W1 rs A ca W (rowsL ha hb) hla hsa hca)
 have HX:=Hi (fun W (hb:Below w.heap.size w W)=>(show EAt S W e (.agg #[.string (str e.op),.int .i64 e.v.k,.int .i64 e.v.i,.string (str e.v.s),.string (str e.tb),.string (str e.nm),.slice A7 e.l.length c7]) from⟨A7,c7,rfl,sub_later hs7 hb⟩))
 have HLV:=Hi (fun W (hb:Below w.heap.size w W)=>liveR_any W (hE.later hb) (hE'.below hb hE'.size))
 have HE:=Hi hE;obtain⟨wa,hwa⟩:∃ wa,wa=evW W1:=⟨_,rfl⟩;have hwa5:wa≤5:=by rw[hwa];exact(evW_eq W1).2
 obtain⟨la,hla'⟩:∃ la,la=(rs.map BV.R.xs).map (evR wa):=⟨_,rfl⟩;have HVA:Hid (evOk rs=true→la.length≤30):=Hi fun h=>by rw[hla'];exact(ev_of h hia wa).many
 have HBG:Hid (evOk rs=true→okB (wa:Int) e=true→Fl e la):=Hi fun h ho=>by rw[hla'];exact fl_of h hia wa hwa5 ho hin
 have HBG2:Hid (evOk rs=true→okB (wa:Int) f=true→Fl f la):=Hi fun h ho=>by rw[hla'];exact fl_of h hia wa hwa5 ho hin2
 have HBD:=Hi (fun(V:Int) (W:World) (g:Nat) (hs:Sub (fun _=>True) W (.mk [] v0 [] [] [e,f]) (some ⟨g,0,none⟩) 2)=>bound_any V [e,f] v0 (some ⟨g,0,none⟩) 2 (fun _=>True) W hs)
 unfold EvenT at hEV1;rw[←hwa,←hla']at hEV1;simp only[List.all_cons,List.all_nil,Bool.and_true,List.length_cons,List.length_nil,Nat.zero_add,Nat.reduceAdd]at HBD;generalize rs.length=n at *;obtain⟨W0,hW0⟩:∃ W0:World,W0=((w.alloc (.cells #[.int .i64 W1,.slice A n ca] 24)).alloc (.cells #[.string (str e.op),.int .i64 e.v.k,.int .i64 e.v.i,.string (str e.v.s),.string (str e.tb),.string (str e.nm),.slice A7 e.l.length c7] 29)).alloc (.cells #[.string (str f.op),.int .i64 f.v.k,.int .i64 f.v.i,.string (str f.v.s),.string (str f.tb),.string (str f.nm),.slice A8 f.l.length c8] 29):=⟨_,rfl⟩;have b0:Below w.heap.size w W0:=by rw[hW0];exact((one_alloc w _).alloc (by simp) _).alloc (by simp;omega) _
 have HC:Hid (∀ W',Below W0.heap.size W0 W'→(W'.cell? ⟨w.heap.size,0,none⟩=some (.int .i64 W1)∧W'.cell? ⟨w.heap.size,1,none⟩=some (.slice A n ca)∧W'.cell? ⟨w.heap.size+1,0,none⟩=some (.string (str e.op))∧W'.cell? ⟨w.heap.size+1,1,none⟩=some (.int .i64 e.v.k)∧W'.cell? ⟨w.heap.size+1,2,none⟩=some (.int .i64 e.v.i)∧W'.cell? ⟨w.heap.size+1,3,none⟩=some (.string (str e.v.s))∧W'.cell? ⟨w.heap.size+1,4,none⟩=some (.string (str e.tb))∧W'.cell? ⟨w.heap.size+1,5,none⟩=some (.string (str e.nm))∧W'.cell? ⟨w.heap.size+1,6,none⟩=some (.slice A7 e.l.length c7)∧W'.cell? ⟨w.heap.size+2,0,none⟩=some (.string (str f.op))∧W'.cell? ⟨w.heap.size+2,1,none⟩=some (.int .i64 f.v.k)∧W'.cell? ⟨w.heap.size+2,2,none⟩=some (.int .i64 f.v.i)∧W'.cell? ⟨w.heap.size+2,3,none⟩=some (.string (str f.v.s))∧W'.cell? ⟨w.heap.size+2,4,none⟩=some (.string (str f.tb))∧W'.cell? ⟨w.heap.size+2,5,none⟩=some (.string (str f.nm))∧W'.cell? ⟨w.heap.size+2,6,none⟩=some (.slice A8 f.l.length c8))):=Hi fun W' hb=>by
  have h1:=heap_alloc_new w (.cells #[.int .i64 W1,.slice A n ca] 24);have h3:=heap_alloc_new (w.alloc (.cells #[.int .i64 W1,.slice A n ca] 24)) (.cells #[.string (str e.op),.int .i64 e.v.k,.int .i64 e.v.i,.string (str e.v.s),.string (str e.tb),.string (str e.nm),.slice A7 e.l.length c7] 29);have h5:=heap_alloc_new ((w.alloc (.cells #[.int .i64 W1,.slice A n ca] 24)).alloc (.cells #[.string (str e.op),.int .i64 e.v.k,.int .i64 e.v.i,.string (str e.v.s),.string (str e.tb),.string (str e.nm),.slice A7 e.l.length c7] 29)) (.cells #[.string (str f.op),.int .i64 f.v.k,.int .i64 f.v.i,.string (str f.v.s),.string (str f.tb),.string (str f.nm),.slice A8 f.l.length c8] 29);have z:W0.heap.size=w.heap.size+3:=by rw[hW0];simp
  have g1:W0.heap[w.heap.size]? = some (.cells #[.int .i64 W1,.slice A n ca] 24 (0,0)):=by rw[hW0,heap_alloc_old _ _ (by simp;omega),heap_alloc_old _ _ (by simp)];exact h1
  have g3:W0.heap[w.heap.size+1]? = some (.cells #[.string (str e.op),.int .i64 e.v.k,.int .i64 e.v.i,.string (str e.v.s),.string (str e.tb),.string (str e.nm),.slice A7 e.l.length c7] 29 (0,0)):=by rw[hW0,heap_alloc_old _ _ (by simp)];simpa using h3
  have g5:W0.heap[w.heap.size+2]? = some (.cells #[.string (str f.op),.int .i64 f.v.k,.int .i64 f.v.i,.string (str f.v.s),.string (str f.tb),.string (str f.nm),.slice A8 f.l.length c8] 29 (0,0)):=by rw[hW0];simpa using h5
  have k1:=(hb.block w.heap.size (by omega)).trans g1
  have k3:=(hb.block (w.heap.size+1) (by omega)).trans g3
  have k5:=(hb.block (w.heap.size+2) (by omega)).trans g5
  refine⟨?_,?_,?_,?_,?_,?_,?_,?_,?_,?_,?_,?_,?_,?_,?_,?_⟩
  ·rw[Lib.cell_of_heap k1];rfl
  ·rw[Lib.cell_of_heap k1];rfl
  all_goals (first | (rw[Lib.cell_of_heap k3];rfl) | (rw[Lib.cell_of_heap k5];rfl))
 have HB0:=Hi b0;have HW0:=Hi hW0;have hsub2:Hid (∀ W,Below w.heap.size w W→Sub (fun _=>True) (W.alloc (.cells #[.string (str e.op),.int .i64 e.v.k,.int .i64 e.v.i,.string (str e.v.s),.string (str e.tb),.string (str e.nm),.slice A7 e.l.length c7,.string (str f.op),.int .i64 f.v.k,.int .i64 f.v.i,.string (str f.v.s),.string (str f.tb),.string (str f.nm),.slice A8 f.l.length c8] 29)) (.mk [] v0 [] [] [e,f]) (some ⟨W.heap.size,0,none⟩) 2):=Hi fun W hb=>twoS e f A7 A8 c7 c8 (sub_later hs7 hb) (sub_later hs8 hb) [] v0 [] []
 have HT1:Hid (∀ W,Below w.heap.size w W→Fl e la→∀ r∈la,∀ (A':Option Addr) (c':Nat),BV.RowAt W W.heap.size A' r→Calls Tryz.prog 14 #[.agg #[.string (str e.op),.int .i64 e.v.k,.int .i64 e.v.i,.string (str e.v.s),.string (str e.tb),.string (str e.nm),.slice A7 e.l.length c7],.slice A' r.length c'] W fun q w'=>q = .returned (.tuple #[.bool (truP e r).2,.int .i64 (truP e r).1])∧Below W.heap.size W w'):=Hi fun W hb F r hr A' c' h=>truth_e r (by have:=F.wide r hr;omega) e _ S W A' c' (HX.out W hb) h (HE.out.later hb) (F.fit r hr)
 have HT2:Hid (∀ W,Below w.heap.size w W→Fl e la→∀ r∈la,∀ (A':Option Addr) (c':Nat),BV.RowAt W W.heap.size A' r→Calls Tryz.prog 15 #[.agg #[.string (str e.op),.int .i64 e.v.k,.int .i64 e.v.i,.string (str e.v.s),.string (str e.tb),.string (str e.nm),.slice A7 e.l.length c7],.slice A' r.length c'] W fun q w'=>q = .returned (.tuple #[.bool (truP e r).2,.int .i64 (truP e r).1])∧Below W.heap.size W w'):=Hi fun W hb F r hr A' c' h=>rtruth_e r (by have:=F.wide r hr;omega) e _ S W A' c' (HX.out W hb) h (F.fit r hr) (F.good r hr) F.size
 unfold eVal;clear ha hla hsa hca hia hs7 hs8 hE hE' hwa hla' hin hin2 b0 hW0;generalize str e.op=s0 at *;generalize e.v.k=i1 at *;generalize e.v.i=i2 at *;generalize str e.v.s=s3 at *;generalize str e.tb=s4 at *;generalize str e.nm=s5 at *;generalize e.l.length=l7 at *;generalize str f.op=t0 at *;generalize f.v.k=j1 at *;generalize f.v.i=j2 at *;generalize str f.v.s=t3 at *;generalize str f.tb=t4 at *;generalize str f.nm=t5 at *;generalize f.l.length=l8 at *;cases h1:evOk rs
 ·rw[h1]at hEV1
  clear h1;go_enter Tryz.func3,Tryz.ntmps3;go_wp2_with fail;rw[←HW0.out];refine(HLV.out W0 HB0.out).mono ?_;rintro q w1 ⟨rfl,b1⟩;have BW:=Hi b1;have BB:=Hi (bthen HB0.out b1);obtain⟨c0,c1,-,-,-,-,-,-,-,-,-,-,-,-,-,-⟩:=HC.out w1 BW.out;clear b1 HW0 HLV;go_wp2_with fail;refine(hEV1.out w1 BB.out).mono ?_;rintro q w2 ⟨va,rfl,HLa,b2⟩;have BW:=Hi (bthen BW.out b2.out);have BB:=Hi (bthen BB.out b2.out);obtain⟨-,-,e0,e1,e2,e3,e4,e5,e6,d0,d1,d2,d3,d4,d5,d6⟩:=HC.out w2 BW.out;clear b2 c0 c1 hEV1;go_wp2_with fail
  go_ret
  exact⟨rfl,BB.out⟩
 rw[h1]at hEV1;cases h3:(okB (wa:Int) e && okB (wa:Int) f)
 ·have HBD:=Hi (fun W g hs=>by have:=HBD.out (wa:Int) W g hs;rw[h3]at this;exact this)
  go_enter Tryz.func3,Tryz.ntmps3;go_wp2_with fail;rw[←HW0.out];refine(HLV.out W0 HB0.out).mono ?_;rintro q w1 ⟨rfl,b1⟩;have BW:=Hi b1;have BB:=Hi (bthen HB0.out b1);obtain⟨c0,c1,-,-,-,-,-,-,-,-,-,-,-,-,-,-⟩:=HC.out w1 BW.out;clear b1 HW0 HLV;go_wp2_with fail;refine(hEV1.out w1 BB.out).mono ?_;rintro q w2 ⟨va,rfl,HLa,b2⟩;have BW:=Hi (bthen BW.out b2.out);have BB:=Hi (bthen BB.out b2.out);obtain⟨-,-,e0,e1,e2,e3,e4,e5,e6,d0,d1,d2,d3,d4,d5,d6⟩:=HC.out w2 BW.out;clear b2 c0 c1 hEV1;obtain⟨Aa,xa,rfl,hA⟩:=HLa.out trivial;have HA:=Hi hA;obtain⟨na,hna⟩:∃ na,na=la.length:=⟨_,rfl⟩;have hna30:na≤30:=by rw[hna];exact HVA.out h1
  rw[←hna]at HA ⊢;have HNA:=Hi hna;clear hA hna HLa HVA;go_wp2_with fail;refine(HBD.out (w2.alloc (.cells #[.string s0,.int .i64 i1,.int .i64 i2,.string s3,.string s4,.string s5,.slice A7 l7 c7,.string t0,.int .i64 j1,.int .i64 j2,.string t3,.string t4,.string t5,.slice A8 l8 c8] 29)) w2.heap.size (hsub2.out w2 BB.out)).mono ?_;rintro q w4 ⟨rfl,b4⟩;have b4:=bthen (one_alloc w2 _) b4;have BW:=Hi (bthen BW.out b4);have BB:=Hi (bthen BB.out b4);have HA:=Hi (HA.out.later b4);clear e0 e1 e2 e3 e4 e5 e6 d0 d1 d2 d3 d4 d5 d6 b4 HBD;go_wp2_with fail
  go_ret
  exact⟨rfl,BB.out⟩
 have HBD:=Hi (fun W g hs=>by have:=HBD.out (wa:Int) W g hs;rw[h3]at this;exact this)
 rw[Bool.and_eq_true]at h3;have BGA:=Hi (HBG.out h1 h3.1);have BGF:=Hi (HBG2.out h1 h3.2);clear HBG HBG2;go_enter Tryz.func3,Tryz.ntmps3;go_wp2_with fail;rw[←HW0.out];refine(HLV.out W0 HB0.out).mono ?_;rintro q w1 ⟨rfl,b1⟩;have BW:=Hi b1;have BB:=Hi (bthen HB0.out b1);obtain⟨c0,c1,-,-,-,-,-,-,-,-,-,-,-,-,-,-⟩:=HC.out w1 BW.out;clear b1 HW0 HLV;go_wp2_with fail;refine(hEV1.out w1 BB.out).mono ?_;rintro q w2 ⟨va,rfl,HLa,b2⟩;have BW:=Hi (bthen BW.out b2.out);have BB:=Hi (bthen BB.out b2.out);obtain⟨-,-,e0,e1,e2,e3,e4,e5,e6,d0,d1,d2,d3,d4,d5,d6⟩:=HC.out w2 BW.out;clear b2 c0 c1 hEV1;obtain⟨Aa,xa,rfl,hA⟩:=HLa.out trivial;have HA:=Hi hA;obtain⟨na,hna⟩:∃ na,na=la.length:=⟨_,rfl⟩;have hna30:na≤30:=by rw[hna];exact HVA.out h1
 rw[←hna]at HA ⊢;have HNA:=Hi hna;clear hA hna HLa HVA;go_wp2_with fail;refine(HBD.out (w2.alloc (.cells #[.string s0,.int .i64 i1,.int .i64 i2,.string s3,.string s4,.string s5,.slice A7 l7 c7,.string t0,.int .i64 j1,.int .i64 j2,.string t3,.string t4,.string t5,.slice A8 l8 c8] 29)) w2.heap.size (hsub2.out w2 BB.out)).mono ?_;rintro q w4 ⟨rfl,b4⟩;have b4:=bthen (one_alloc w2 _) b4;have BW:=Hi (bthen BW.out b4);have BB:=Hi (bthen BB.out b4);have HA:=Hi (HA.out.later b4);clear e0 e1 e2 e3 e4 e5 e6 d0 d1 d2 d3 d4 d5 d6 b4 HBD;obtain⟨-,-,e0,e1,e2,e3,e4,e5,e6,d0,d1,d2,d3,d4,d5,d6⟩:=HC.out w4 BW.out;have HX1:=Hi (fun W (hb:Below w4.heap.size w4 W)=>filt_la (HA.out.later hb) (HX.out W (bthen BB.out hb)) (HE.out.later (bthen BB.out hb)) (by omega) (fun r hr=>by have:=BGA.out.wide r hr;omega) BGA.out.fit)
 have HX2:=Hi (fun W (hb:Below w4.heap.size w4 W)=>rfilt_la (HA.out.later hb) (HX.out W (bthen BB.out hb)) (by omega) (fun r hr=>by have:=BGA.out.wide r hr;omega) BGA.out.fit BGA.out.good BGA.out.size)
 have HF2:Hid (∀ r∈la,∀ x∈[e,f],x.fit deedP r):=Hi fun r hr x hx=>by
  simp only[List.mem_cons,List.not_mem_nil,or_false]at hx;rcases hx with rfl | rfl
  ·exact BGA.out.fit r hr
  ·exact BGF.out.fit r hr
 have HG2:Hid (∀ r∈la,∀ x∈[e,f],x.good r.length=true∧x.size≤900):=Hi fun r hr x hx=>by
  simp only[List.mem_cons,List.not_mem_nil,or_false]at hx;rcases hx with rfl | rfl
  ·exact⟨BGA.out.good r hr,BGA.out.size⟩
  ·exact⟨BGF.out.good r hr,BGF.out.size⟩
 have HX3:=Hi (fun W (hb:Below w4.heap.size w4 W)=>projE_la (kc:=2) (es:=[e,f]) (m:=2) ((HA.out.later hb).later (one_alloc W _)) (hsub2.out W (bthen BB.out hb)) (HE.out.later (bthen (bthen BB.out hb) (one_alloc W _))) rfl (by omega) (by simp) (fun r hr=>by have:=BGA.out.wide r hr;omega) HF2.out)
 have HX4:=Hi (fun W (hb:Below w4.heap.size w4 W)=>rprojE_la (kc:=2) (es:=[e,f]) (m:=2) ((HA.out.later hb).later (one_alloc W _)) (hsub2.out W (bthen BB.out hb)) rfl (by omega) (by simp) (fun r hr=>by have:=BGA.out.wide r hr;omega) HF2.out HG2.out)
 have HS1:=Hi (fun(W:World) (A B:Option Addr) (n m ca cb:Nat) (er:Int) (h1:LA W A n ca (FRes (truP e) la)) (h2:LA W B m cb (FRes (truP e) la)) (hn:n≤1000000)=>samel_la er h1 h2 rfl hn (fres_wide BGA.out))
 have HS2:=Hi (fun(W:World) (A B:Option Addr) (n m ca cb:Nat) (er:Int) (h1:LA W A n ca (pP [e,f] la)) (h2:LA W B m cb (pP [e,f] la)) (hn:n≤1000000)=>samel_la er h1 h2 rfl hn (fun r hr=>by have:=pP_wide _ _ r hr;simp at this;omega))
 have HT1:=Hi (fun W (hb:Below w4.heap.size w4 W)=>HT1.out W (bthen BB.out hb) BGA.out)
 have HT2:=Hi (fun W (hb:Below w4.heap.size w4 W)=>HT2.out W (bthen BB.out hb) BGA.out)
 have hlf:(FRes (truP e) la).length≤30:=by have:=fres_len (truP e) la;have:=HNA.out;omega
 have hlp:(pP [e,f] la).length≤30:=by have:=pP_len [e,f] la;have:=HNA.out;omega
 have BB4:=Hi (Below.refl w4.heap.size w4);clear HF2 HG2 h3 hsub2 HX HE BGA BGF;generalize errsP (truP e) la=er1 at *;generalize FRes (truP e) la=l1 at *;generalize eP [e,f] la=er2 at *;generalize pP [e,f] la=l2 at *;go_wp2_with fail;refine(HX1.out w4 BB4.out).mono ?_;rintro q w5 ⟨A5,k5,rfl,L5,B5⟩;have BW:=Hi (bthen BW.out B5.out);have BB:=Hi (bthen BB.out B5.out);have BB4:=Hi B5.out;clear e0 e1 e2 e3 e4 e5 e6 d0 d1 d2 d3 d4 d5 d6 B5 HX1;obtain⟨-,-,e0,e1,e2,e3,e4,e5,e6,d0,d1,d2,d3,d4,d5,d6⟩:=HC.out w5 BW.out;go_wp2_with fail;refine(HX2.out w5 BB4.out).mono ?_;rintro q w6 ⟨A6,k6,rfl,L6,B6⟩;have L5:=Hi (L5.out.later B6.out);have BW:=Hi (bthen BW.out B6.out);have BB:=Hi (bthen BB.out B6.out);have BB4:=Hi (bthen BB4.out B6.out);clear e0 e1 e2 e3 e4 e5 e6 d0 d1 d2 d3 d4 d5 d6 B6 HX2;obtain⟨-,-,e0,e1,e2,e3,e4,e5,e6,d0,d1,d2,d3,d4,d5,d6⟩:=HC.out w6 BW.out;have HX3:=Hi (HX3.out w6 BB4.out);go_wp2_with fail;refine(HX3.out).mono ?_;rintro q w7 ⟨A8',k8,rfl,L8,B8⟩;have b8:=Hi (bthen (one_alloc w6 _) B8.out);have L5:=Hi (L5.out.later b8.out);have L6:=Hi (L6.out.later b8.out);have BW:=Hi (bthen BW.out b8.out);have BB:=Hi (bthen BB.out b8.out);have BB4:=Hi (bthen BB4.out b8.out);clear e0 e1 e2 e3 e4 e5 e6 d0 d1 d2 d3 d4 d5 d6 B8 HX3 b8;obtain⟨-,-,e0,e1,e2,e3,e4,e5,e6,d0,d1,d2,d3,d4,d5,d6⟩:=HC.out w7 BW.out;have HX4:=Hi (HX4.out w7 BB4.out);go_wp2_with fail;refine(HX4.out).mono ?_;rintro q w8 ⟨A9,k9,rfl,L9,B9⟩;have b9:=Hi (bthen (one_alloc w7 _) B9.out);have L5:=Hi (L5.out.later b9.out);have L6:=Hi (L6.out.later b9.out);have L8:=Hi (L8.out.later b9.out);have BW:=Hi (bthen BW.out b9.out);have BB:=Hi (bthen BB.out b9.out);have BB4:=Hi (bthen BB4.out b9.out);clear e0 e1 e2 e3 e4 e5 e6 d0 d1 d2 d3 d4 d5 d6 B9 HX4 b9;have HL:=Hi (HA.out.later BB4.out);go_wp2_with fail
 go_loopw [73] (fun iv wr=>∃ i:Nat,i≤na∧iv = .int .i64 (i:Int)∧Hid (Below w8.heap.size w8 wr)) (fun iv _=>na - (intOf iv).toNat)
 case atStart=>exact⟨0,Nat.zero_le _,rfl,Hi (Below.refl _ _)⟩
 case round =>
  obtain⟨i,hi,rfl,HB⟩:=hrel
  by_cases hlt:i < na
  ·obtain⟨k1,b,off,r1,rfl,hb,hc1,hx1,hr1⟩:=HL.out.rowAt (k:=i) hlt
   have hltz:(i:Int) < (na:Int):=by omega
   have hm:=List.getElem_mem k1;rw[←hx1]at hm;have q1:=(HB.out.cell (p:=⟨b,_,none⟩) hb).trans hc1;obtain⟨-,-,e0,e1,e2,e3,e4,e5,e6,d0,d1,d2,d3,d4,d5,d6⟩:=HC.out wr (bthen BW.out HB.out);have C1:=Hi (HT1.out wr (bthen BB4.out HB.out) r1.xs hm r1.A r1.c (hr1.later HB.out));have C2:=Hi (fun W (hb:Below wr.heap.size wr W)=>HT2.out W (bthen (bthen BB4.out HB.out) hb) r1.xs hm r1.A r1.c ((hr1.later HB.out).later hb))
   generalize (truP e r1.xs).1=te at *;generalize (truP e r1.xs).2=tb at *;generalize r1.xs.length=rl at *;generalize r1.A=rA at *;generalize r1.c=rc at *;clear hc1 hx1 hr1 hb hm k1 HT1 HT2 HL HA;go_wp2_with fail;refine(C1.out).mono ?_;rintro q w10 ⟨rfl,b10⟩;have C2:=Hi (C2.out w10 b10);have HB10:=Hi (bthen HB.out b10);clear e0 e1 e2 e3 e4 e5 e6 d0 d1 d2 d3 d4 d5 d6 q1 C1 b10;obtain⟨-,-,e0,e1,e2,e3,e4,e5,e6,d0,d1,d2,d3,d4,d5,d6⟩:=HC.out w10 (bthen BW.out HB10.out);go_wp2_with fail;refine(C2.out).mono ?_;rintro q w11 ⟨rfl,b11⟩;have HB11:=Hi (bthen HB10.out b11);clear e0 e1 e2 e3 e4 e5 e6 d0 d1 d2 d3 d4 d5 d6 C2 b11;cases tb
   all_goals (
    go_wp2_with fail
    go_roundw
    case rel=>exact⟨i+1,by omega,by go_num,HB11⟩
    case measure=>simp[intOf];omega)
  ·obtain rfl:i=na:=by omega
   have hltz:¬(i:Int) < (i:Int):=by omega
   have C1:=Hi (HS1.out _ _ _ _ _ _ _ er1 (L5.out.later HB.out) (L6.out.later HB.out) (by omega))
   have C2:=Hi (fun W (hb:Below wr.heap.size wr W)=>HS2.out _ _ _ _ _ _ _ er2 ((L8.out.later HB.out).later hb) ((L9.out.later HB.out).later hb) (by omega))
   clear HT1 HT2 HL HA HS1 HS2 L5 L6 L8 L9;go_wp2_with fail;refine(C1.out).mono ?_;rintro q w10 ⟨rfl,b10⟩;have C2:=Hi (C2.out w10 b10);have HB10:=Hi (bthen HB.out b10);clear C1 b10;go_wp2_with fail;refine(C2.out).mono ?_;rintro q w11 ⟨rfl,b11⟩;have HB11:=Hi (bthen HB10.out b11);clear C2 b11;go_wp2_with fail
   go_ret
   exact⟨rfl,bthen BB.out HB11.out⟩
end Go.Proofs.YtcicpjgnpcnnmaaGreatDoor
