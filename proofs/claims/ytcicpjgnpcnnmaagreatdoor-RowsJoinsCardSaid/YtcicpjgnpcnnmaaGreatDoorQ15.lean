import Derived.Test.YtcicpjgnpcnnmaaGreatDoorQ14
set_option maxRecDepth 100000
set_option maxHeartbeats 4000000
namespace Go.Proofs.YtcicpjgnpcnnmaaGreatDoor.BV
end Go.Proofs.YtcicpjgnpcnnmaaGreatDoor.BV
namespace Go.Proofs.YtcicpjgnpcnnmaaGreatDoor.LG
open BV
open Go.RowKit
def eqB:ByteArray:=⟨#[61]⟩
def eqs(v:V)(xs:List V):List V:=xs.map (relR eqB v)
def firstE(v:V):List V→Int
 | []=>0
 | x::l=>if relE eqB v x=0 then firstE v l else relE eqB v x
def okIn(v:V)(xs:List V):Bool:=allOk [v] && allOk xs
def inE(v:V)(xs:List V):Int:=if okIn v xs=true then (if firstE v xs=0 then ctL (eqs v xs)else firstE v xs)else 1
def inR(v:V)(xs:List V):V:=if okIn v xs=true then (if firstE v xs=0 then decV true (eqs v xs)else zV)else zV
theorem firstE_step{v:V}{xs:List V}{k:Nat}(h:k < xs.length)(h0:firstE v (xs.take k)=0):(relE eqB v xs[k]=0→firstE v (xs.take (k+1))=0)∧(¬relE eqB v xs[k]=0→firstE v xs=relE eqB v xs[k]):=by
 induction xs generalizing k with
 | nil=>simp at h
 | cons a l ih =>
  cases k with
  | zero =>
   simp only[List.getElem_cons_zero,List.take_succ_cons,List.take_zero];unfold firstE
   constructor
   ·intro h1;rw[if_pos h1];rfl
   ·intro h1;rw[if_neg h1]
  | succ k =>
   simp only[List.getElem_cons_succ,List.take_succ_cons]at h0 ⊢;unfold firstE at h0 ⊢
   have h1:relE eqB v a=0:=by
    by_cases e:relE eqB v a=0
    ·exact e
    ·rw[if_neg e]at h0;exact absurd h0 e
   rw[if_pos h1]at h0 ⊢;rw[if_pos h1];exact ih (by simpa using h) h0
theorem eqs_len(v:V)(xs:List V):(eqs v xs).length=xs.length:=by simp[eqs]
theorem made3(n:Nat):madeCells (Value.agg #[.int .i64 0,.int .i64 0,.string ⟨#[]⟩]).cells (n*3)=(flat (List.replicate n zV)).toArray:=by
 have hf:(flat (List.replicate n zV)).length=n*3:=by rw[flat_len];simp
 apply Array.ext
 ·simp[size_madeCells,hf]
 ·intro j h1 h2
  rw[size_madeCells]at h1;have hq:j / 3 < (List.replicate n zV).length:=by simp;omega
  have hg:=flat_get (List.replicate n zV) (j / 3) (j % 3) hq (by omega)
  rw[show j / 3*3+j % 3=j by omega]at hg
  have hl:((flat (List.replicate n zV)).toArray)[j]=(flat (List.replicate n zV))[j]'(by rw[hf];exact h1):=by simp
  rw[hl]
  have hg':(flat (List.replicate n zV))[j]'(by rw[hf];exact h1)=(c3 zV)[j % 3]'(by simp[c3];omega):=by
   rw[List.getElem?_eq_getElem (by rw[hf];exact h1)]at hg
   simp only[List.getElem_replicate]at hg;rw[List.getElem?_eq_getElem (by simp[c3];omega)]at hg
   exact Option.some.inj hg
  rw[hg'];simp only[madeCells,Array.getElem_map,Array.getElem_range];have h3:j % 3=0∨j % 3=1∨j % 3=2:=by omega
  have hs:(Value.agg #[.int .i64 0,.int .i64 0,.string ⟨#[]⟩]).cells=#[.int .i64 0,.int .i64 0,.string ⟨#[]⟩]:=by kernel_rfl
  rw[hs]
  show _=(c3 zV)[j % 3]'_
  rcases h3 with h3 | h3 | h3 <;> simp[h3,c3,zV]
def RowBox(w:World)(g:Nat)(ys:List V):Prop:=w.heap[g]? = some (.cells (flat ys).toArray 26 (0,0))
theorem RowBox.below{w w':World}{B g:Nat}{ys:List V}(h:RowBox w g ys)(hb:Below B w w')(hB:g < B):RowBox w' g ys:=(hb.block g hB).trans h
theorem RowBox.lt{w:World}{g:Nat}{ys:List V}(h:RowBox w g ys):g < w.heap.size:=(Array.getElem?_eq_some_iff.1 h).1
theorem RowBox.row{w:World}{g:Nat}{ys:List V}(h:RowBox w g ys):RowAt w w.heap.size (some ⟨g,0,none⟩) ys:=RowAt.of_heap h rfl
theorem RowBox.cell{w:World}{g:Nat}{ys:List V}(h:RowBox w g ys)(k:Nat)(hk:k < ys.length):w.cell? ⟨g,k*3,none⟩=some (.int .i64 ys[k].k)∧w.cell? ⟨g,k*3+1,none⟩=some (.int .i64 ys[k].i)∧w.cell? ⟨g,k*3+2,none⟩=some (.string ys[k].s):=by
 refine⟨?_,?_,?_⟩
 ·rw[Lib.cell_of_heap h];have:=flat_get ys k 0 hk (by omega);simpa [c3]using this
 ·rw[Lib.cell_of_heap h];have:=flat_get ys k 1 hk (by omega);simpa [c3]using this
 ·rw[Lib.cell_of_heap h];have:=flat_get ys k 2 hk (by omega);simpa [c3]using this
theorem RowBox.free{w:World}{g:Nat}{ys:List V}(h:RowBox w g ys)(j:Nat):w.frozen? ⟨g,j,none⟩=false:=Lib.frozen_of_heap h j
theorem flat_set(ys:List V)(k:Nat)(u:V)(hk:k < ys.length):flat (ys.set k u)=(((flat ys).set (k*3) (.int .i64 u.k)).set (k*3+1) (.int .i64 u.i)).set (k*3+2) (.string u.s):=by
 induction ys generalizing k with
 | nil=>simp at hk
 | cons a l ih =>
  cases k with
  | zero=>rfl
  | succ k =>
   show flat (a::l.set k u)=_
   show c3 a++flat (l.set k u)=(((c3 a++flat l).set _ _).set _ _).set _ _
   rw[ih k (by simpa using hk)]
   have hl:(c3 a).length=3:=rfl;rw[List.set_append_right _ _ (by omega),List.set_append_right _ _ (by omega),List.set_append_right _ _ (by omega),hl]
   rw[show(k+1)*3 - 3=k*3 by omega,show(k+1)*3+1 - 3=k*3+1 by omega,show(k+1)*3+2 - 3=k*3+2 by omega]
theorem RowBox.set{w:World}{g:Nat}{ys:List V}(h:RowBox w g ys)(k:Nat)(u:V)(hk:k < ys.length):RowBox (((w.setCell ⟨g,k*3,none⟩ (.int .i64 u.k)).setCell ⟨g,k*3+1,none⟩ (.int .i64 u.i)).setCell ⟨g,k*3+2,none⟩ (.string u.s)) g (ys.set k u):=by
 unfold RowBox;rw[Lib.heap_setCell_same (Lib.heap_setCell_same (Lib.heap_setCell_same h _) _) _,flat_set ys k u hk]
 simp
theorem far_set{v:V}{xs:List V}{k n:Nat}(hn:n=xs.length)(h:k < n):((eqs v xs).take k++List.replicate (n - k) zV).set k (relR eqB v (xs[k]'(by omega)))=(eqs v xs).take (k+1)++List.replicate (n - (k+1)) zV:=by
 have hl:((eqs v xs).take k).length=k:=by rw[List.length_take,eqs_len];omega
 rw[List.set_append_right _ _ (by omega),hl,Nat.sub_self,show n - k=(n - (k+1))+1 by omega,List.replicate_succ,List.set_cons_zero]
 rw[take_snoc (xs:=eqs v xs) (by rw[eqs_len];omega)]
 simp[eqs]
theorem in_bad{v:V}{xs:List V}(h:okIn v xs=false):inE v xs=1∧inR v xs=zV:=by unfold inE inR;rw[h];exact⟨rfl,rfl⟩
theorem in_err{v:V}{xs:List V}(h:okIn v xs=true)(h0:¬firstE v xs=0):inE v xs=firstE v xs∧inR v xs=zV:=by unfold inE inR;rw[if_pos h,if_pos h,if_neg h0,if_neg h0];exact⟨rfl,rfl⟩
theorem in_good{v:V}{xs:List V}(h:okIn v xs=true)(h0:firstE v xs=0):inE v xs=ctL (eqs v xs)∧inR v xs=decV true (eqs v xs):=by unfold inE inR;rw[if_pos h,if_pos h,if_pos h0,if_pos h0];exact⟨rfl,rfl⟩
theorem in_any_bad(v:V)(xs:List V)(A:Option Addr)(c:Nat)(w:World)(hr:RowAt w w.heap.size A xs)(hm:xs.length≤2000)(hok:okIn v xs=false) :
  Calls Tryz.prog 149 #[.agg #[.int .i64 v.k,.int .i64 v.i,.string v.s],.slice A xs.length c] w fun e w'=>e = .returned (.tuple #[.agg #[.int .i64 0,.int .i64 0,.string ⟨#[]⟩],.int .i64 1])∧Below w.heap.size w w':=by
 have hcall:=lcheck_any [v] _ 1 _ (w2of_row w v) (by simp)
 obtain⟨h0,h1,hb,hsz⟩:=w2of_box w v;have hc2:=fun w' (hb':Below w.heap.size w w')=>lcheck_any xs A c w' (hr.later hb') (by omega)
 rw[chkA_or]at hcall;simp only[chkA_or]at hc2;have HOK:Hid ((allOk [v] && allOk xs)=false):=hok;generalize allOk [v]=ga at *;generalize allOk xs=gb at *;generalize xs.length=n at *;have H0:=Hi h0;have H1:=Hi h1;have HZ:=Hi hsz;have HB:=Hi hb;have HC:=Hi hcall;have HC2:=Hi hc2;clear h0 h1 hb hsz hcall hr hc2;have HC:Hid (Calls Tryz.prog 148 #[.slice (some ⟨w.heap.size+2,0,none⟩) 1 1] (((w.alloc (.cells #[.int .i64 v.k,.int .i64 v.i,.string v.s] 26)).alloc (.cells #[.int .i64 0,.int .i64 0,.string ⟨#[]⟩] 26)).alloc (.cells #[.int .i64 v.k,.int .i64 v.i,.string v.s] 26)) fun e w'=>e = .returned (.int .i64 (if ga then 0 else 1))∧Below (w2of w v).heap.size (w2of w v) w'):=HC.out
 cases ga
 ·simp only[Bool.false_eq_true,if_false]at HC
  go_enter Tryz.func149,Tryz.ntmps149;go_wp2_with fail;refine HC.out.mono ?_;rintro e w1 ⟨rfl,hb1⟩;obtain⟨d0,d1,d2⟩:=(H0.out.below hb1 (by rw[HZ.out];omega)).cells
  obtain⟨g0,g1,g2⟩:=(H1.out.below hb1 (by rw[HZ.out];omega)).cells
  obtain⟨f0,f1,f2⟩:=(H1.out.below hb1 (by rw[HZ.out];omega)).free
  simp only[zV]at g0 g1 g2;go_wp2_with fail;exact bodyPost_ret (v:= .tuple #[.agg #[.int .i64 0,.int .i64 0,.string ⟨#[]⟩],.int .i64 1]) (by simp[results,Tryz.results149,go_sem,g0,g1,g2]) rfl ⟨rfl,Below.set3 (HB.out.trans (hb1.mono (by rw[HZ.out];omega))) (by omega) _ _ _⟩
 ·simp only[if_true]at HC
  obtain rfl:gb=false:=by have:=HOK.out;simpa using this
  simp only[Bool.false_eq_true,if_false]at HC2;go_enter Tryz.func149,Tryz.ntmps149;go_wp2_with fail;refine HC.out.mono ?_;rintro e w1 ⟨rfl,hb1⟩;obtain⟨d0,d1,d2⟩:=(H0.out.below hb1 (by rw[HZ.out];omega)).cells
  obtain⟨g0,g1,g2⟩:=(H1.out.below hb1 (by rw[HZ.out];omega)).cells
  obtain⟨f0,f1,f2⟩:=(H1.out.below hb1 (by rw[HZ.out];omega)).free
  simp only[zV]at g0 g1 g2;have hbb:=HB.out.trans (hb1.mono (by rw[HZ.out];omega))
  go_wp2_with fail;refine(HC2.out w1 hbb).mono ?_;rintro e w2 ⟨rfl,hb2⟩;have hb3:=bthen hb1 hb2;obtain⟨d0,d1,d2⟩:=(H0.out.below hb3 (by rw[HZ.out];omega)).cells
  obtain⟨g0,g1,g2⟩:=(H1.out.below hb3 (by rw[HZ.out];omega)).cells
  obtain⟨f0,f1,f2⟩:=(H1.out.below hb3 (by rw[HZ.out];omega)).free
  simp only[zV]at g0 g1 g2;go_wp2_with fail;exact bodyPost_ret (v:= .tuple #[.agg #[.int .i64 0,.int .i64 0,.string ⟨#[]⟩],.int .i64 1]) (by simp[results,Tryz.results149,go_sem,g0,g1,g2]) rfl ⟨rfl,Below.set3 (HB.out.trans (hb3.mono (by rw[HZ.out];omega))) (by omega) _ _ _⟩
theorem info24:(Tryz.prog.info? 26).map (fun i=>(i.zero,i.size,i.bytes))=some (some (.agg #[.int .i64 0,.int .i64 0,.string ⟨#[]⟩]),3,32):=by kernel_rfl
theorem make_vals(n:Nat)(h:n≤2000)(w:World):(Instr.makeSlice 38 (.int .i64 (n:Int)) (.int .i64 (n:Int))).run Tryz.prog w = .ok (.slice (some ⟨w.heap.size,0,none⟩) n n) (w.alloc (.cells (flat (List.replicate n zV)).toArray 26)):=by
 obtain⟨i0,hi,hz0,hz1,hz2⟩:=info_parts info24;have:=run_make (P:=Tryz.prog) w 38 26 i0 _ Tryz.underlying38 hi hz0 .i64 .i64 n n (by omega) (by omega) (by rw[hz2];omega) (by omega)
 rw[this,Int.toNat_natCast,hz1,made3]
end Go.Proofs.YtcicpjgnpcnnmaaGreatDoor.LG
namespace Go.Proofs.YtcicpjgnpcnnmaaGreatDoor.BV
end Go.Proofs.YtcicpjgnpcnnmaaGreatDoor.BV
namespace Go.Proofs.YtcicpjgnpcnnmaaGreatDoor.LG
open BV
open Go.RowKit
theorem okIn_parts{v:V}{xs:List V}(h:okIn v xs=true):allOk [v]=true∧allOk xs=true:=by unfold okIn at h;simpa using h
theorem firstE_end{v:V}{xs:List V}{n:Nat}(hn:n=xs.length)(h:firstE v (xs.take n)=0):firstE v xs=0:=by subst hn;rwa [List.take_length]at h
theorem RowBox.alloc{w:World}{g:Nat}{ys:List V}(h:RowBox w g ys)(o:Obj):RowBox (w.alloc o) g ys:=h.below (Below.alloc (Below.refl w.heap.size w) (Nat.le_refl _) o) h.lt
theorem VBox.alloc{w:World}{g:Nat}{v:V}(h:VBox w g v)(o:Obj):VBox (w.alloc o) g v:=h.below (Below.alloc (Below.refl w.heap.size w) (Nat.le_refl _) o) h.lt
theorem RowBox.later{w w':World}{g:Nat}{ys:List V}(h:RowBox w g ys)(hb:Below w.heap.size w w'):RowBox w' g ys:=h.below hb h.lt
theorem VBox.later{w w':World}{g:Nat}{v:V}(h:VBox w g v)(hb:Below w.heap.size w w'):VBox w' g v:=h.below hb h.lt
theorem in_any_good(v:V)(xs:List V)(A:Option Addr)(c:Nat)(w:World)(hr:RowAt w w.heap.size A xs)(hm:xs.length≤2000)(hok:okIn v xs=true) :
  Calls Tryz.prog 149 #[.agg #[.int .i64 v.k,.int .i64 v.i,.string v.s],.slice A xs.length c] w fun e w'=>e = .returned (.tuple #[.agg #[.int .i64 (inR v xs).k,.int .i64 (inR v xs).i,.string (inR v xs).s],.int .i64 (inE v xs)])∧Below w.heap.size w w':=by
 have hcall:=lcheck_any [v] _ 1 _ (w2of_row w v) (by simp)
 obtain⟨h0,h1,hb,hsz⟩:=w2of_box w v;have hc2:=fun w' (hb':Below w.heap.size w w')=>lcheck_any xs A c w' (hr.later hb') (by omega)
 rw[chkA_or,(okIn_parts hok).1]at hcall;simp only[chkA_or,(okIn_parts hok).2]at hc2;simp only[if_true]at hcall hc2;have HE1:=Hi (fun h0=>in_err hok h0)
 have HE2:=Hi (fun h0=>in_good hok h0)
 generalize inE v xs=q at *;generalize inR v xs=r at *;obtain⟨n,hn⟩:∃ n,n=xs.length:=⟨_,rfl⟩;rw[←hn]at hm hc2 ⊢;have HN:=Hi hn;have hmk:=make_vals n hm;have H0:=Hi h0;have H1:=Hi h1;have HZ:=Hi hsz;have HB:=Hi hb;have HC:=Hi hcall;have HC2:=Hi hc2;have HR:=Hi hr;clear h0 h1 hb hsz hcall hr hc2 hok hn;have HC:Hid (Calls Tryz.prog 148 #[.slice (some ⟨w.heap.size+2,0,none⟩) 1 1] (((w.alloc (.cells #[.int .i64 v.k,.int .i64 v.i,.string v.s] 26)).alloc (.cells #[.int .i64 0,.int .i64 0,.string ⟨#[]⟩] 26)).alloc (.cells #[.int .i64 v.k,.int .i64 v.i,.string v.s] 26)) fun e w'=>e = .returned (.int .i64 0)∧Below (w2of w v).heap.size (w2of w v) w'):=HC.out
 go_enter Tryz.func149,Tryz.ntmps149;go_wp2_with fail;refine HC.out.mono ?_;rintro e w1 ⟨rfl,hb1⟩;have hbb:=HB.out.trans (hb1.mono (by rw[HZ.out];omega))
 go_wp2_with fail;refine(HC2.out w1 hbb).mono ?_;rintro e w2 ⟨rfl,hb2⟩;have hb3:=HB.out.trans ((bthen hb1 hb2).mono (by rw[HZ.out];omega))
 have hw2:w.heap.size+3≤w2.heap.size:=by have h1:=hb1.size;have h2:=hb2.size;have h3:=HZ.out;omega
 have HV0:=Hi (H0.out.below (bthen hb1 hb2) (by rw[HZ.out];omega))
 have HV1:=Hi (H1.out.below (bthen hb1 hb2) (by rw[HZ.out];omega))
 clear hb1 hb2 hbb HC HC2 H0 H1 HZ HB;go_wp2_with fail
 go_loopw [31] (fun i wr=>∃ k:Nat,k≤n∧i = .int .i64 k∧Below w.heap.size w wr∧w2.heap.size < wr.heap.size∧Hid (VBox wr w.heap.size v)∧Hid (VBox wr (w.heap.size+1) zV)∧Hid (RowBox wr w2.heap.size ((eqs v xs).take k++List.replicate (n - k) zV))∧Hid (firstE v (xs.take k)=0)) (fun i _=>n - (intOf i).toNat)
 case atStart=>exact⟨0,Nat.zero_le _,rfl,hb3.alloc (by omega) _,by simp,HV0.out.below (Below.alloc (Below.refl w2.heap.size w2) (Nat.le_refl _) _) (by omega),HV1.out.below (Below.alloc (Below.refl w2.heap.size w2) (Nat.le_refl _) _) (by omega),heap_alloc_new w2 _,rfl⟩
 case round =>
  obtain⟨k,hk,rfl,hb,hgl,hv0,hv1,hrow,hfar⟩:=hrel
  by_cases hlt:k < n
  ·have hkx:k < xs.length:=by rw[←HN.out];exact hlt
   obtain⟨b,off,hA,hbl,hc⟩:=HR.out (by omega)
   subst hA;obtain⟨c1,c2,c3⟩:=hc k hkx;have d1:=(hb.cell (p:=⟨b,_,none⟩) hbl).trans c1;have d2:=(hb.cell (p:=⟨b,_,none⟩) hbl).trans c2;have d3:=(hb.cell (p:=⟨b,_,none⟩) hbl).trans c3;obtain⟨e0,e1,e2⟩:=hv0.out.cells;have hvl:=hv0.out.lt;have e0:=fun o=>(World.cell?_alloc_lt wr o ⟨w.heap.size,0,none⟩ hvl).trans e0
   have e1:=fun o=>(World.cell?_alloc_lt wr o ⟨w.heap.size,1,none⟩ hvl).trans e1
   have e2:=fun o=>(World.cell?_alloc_lt wr o ⟨w.heap.size,2,none⟩ hvl).trans e2
   clear c1 c2 c3 hc;have HX:=Hi (firstE_step hkx hfar.out);have HS:=Hi (far_set (v:=v) HN.out hlt);have HREL:=Hi (fun w=>rel_any eqB v xs[k] w)
   have HL:Hid (k < ((eqs v xs).take k++List.replicate (n - k) zV).length):=by show _ < _;rw[List.length_append,List.length_take,eqs_len,List.length_replicate,←HN.out];omega
   generalize relE eqB v xs[k]=re at *;generalize relR eqB v xs[k]=rr at *;generalize xs[k]=x at *;have HREL:Hid (∀ w,Calls Tryz.prog 101 #[.string ⟨#[61]⟩,.agg #[.int .i64 v.k,.int .i64 v.i,.string v.s],.agg #[.int .i64 x.k,.int .i64 x.i,.string x.s]] w fun e w'=>e = .returned (.tuple #[.agg #[.int .i64 rr.k,.int .i64 rr.i,.string rr.s],.int .i64 re])∧Below w.heap.size w w'):=HREL.out
   have hbA:=hb.alloc hb.size (.cells #[.int .i64 x.k,.int .i64 x.i,.string x.s] 26);have hrowA:=Hi (hrow.out.alloc (.cells #[.int .i64 x.k,.int .i64 x.i,.string x.s] 26));have hv0A:=Hi (hv0.out.alloc (.cells #[.int .i64 x.k,.int .i64 x.i,.string x.s] 26));have hv1A:=Hi (hv1.out.alloc (.cells #[.int .i64 x.k,.int .i64 x.i,.string x.s] 26))
   by_cases hre:re=0
   ·subst hre
    go_wp2_with fail;refine(HREL.out _).mono ?_;rintro e w4 ⟨rfl,hb4⟩;have hb5:=bthen hbA hb4;have hrow5:=Hi (hrowA.out.later hb4);have hv05:=Hi (hv0A.out.later hb4);have hv15:=Hi (hv1A.out.later hb4);have g0:=fun o=>((hrow5.out.alloc o).cell k HL.out).1
    have g1:=fun o=>((hrow5.out.alloc o).cell k HL.out).2.1
    have g2:=fun o=>((hrow5.out.alloc o).cell k HL.out).2.2
    have f0:=fun o=>(hrow5.out.alloc o).free (k*3)
    have f1:=fun o=>(hrow5.out.alloc o).free (k*3+1)
    have f2:=fun o=>(hrow5.out.alloc o).free (k*3+2)
    clear d1 d2 d3 e0 e1 e2;go_wp2_with fail
    go_roundw
    case rel =>
     have hg5:=hrow5.out.lt;have hset:=(hrow5.out.alloc (.cells #[.int .i64 rr.k,.int .i64 rr.i,.string rr.s] 26)).set k rr HL.out;rw[HS.out]at hset;exact⟨k+1,by omega,by go_num,((((hb5.alloc hb5.size _).setCell (by show _≤w2.heap.size;omega) _).setCell (by show _≤w2.heap.size;omega) _).setCell (by show _≤w2.heap.size;omega) _),by simp;omega,((((hv05.out.alloc _).other (by omega) _).other (by omega) _).other (by omega) _),((((hv15.out.alloc _).other (by omega) _).other (by omega) _).other (by omega) _),hset,(HX.out.1 trivial)⟩
    case measure=>simp[intOf];omega
   ·have hre':(re != 0)=true:=by simpa using hre
    have HRE:=Hi hre;clear hre;go_wp2_with fail;refine(HREL.out _).mono ?_;rintro e w4 ⟨rfl,hb4⟩;have hb5:=bthen hbA hb4;have hv15:=Hi (hv1A.out.later hb4);have g0:=fun o=>(hv15.out.alloc o).cells.1
    have g1:=fun o=>(hv15.out.alloc o).cells.2.1
    have g2:=fun o=>(hv15.out.alloc o).cells.2.2
    have f0:=fun o=>(hv15.out.alloc o).free.1
    have f1:=fun o=>(hv15.out.alloc o).free.2.1
    have f2:=fun o=>(hv15.out.alloc o).free.2.2
    clear d1 d2 d3 e0 e1 e2;simp only[zV]at g0 g1 g2;go_wp2_with fail;have hq:=HE1.out (by rw[HX.out.2 HRE.out];exact HRE.out)
    rw[HX.out.2 HRE.out]at hq;exact bodyPost_ret (v:= .tuple #[.agg #[.int .i64 0,.int .i64 0,.string ⟨#[]⟩],.int .i64 re]) (by simp[results,Tryz.results149,go_sem,g0,g1,g2]) rfl ⟨ret_vx (u:=zV) hq.2 hq.1,Below.set3 (hb5.alloc hb5.size _) (by omega) _ _ _⟩
  ·obtain rfl:k=n:=by omega
   have hq:=HE2.out (firstE_end HN.out hfar.out);have HQ:=Hi hq;have hrw:=hrow.out.row;rw[Nat.sub_self,List.replicate_zero,List.append_nil,List.take_of_length_le (by rw[eqs_len];have:=HN.out;omega)]at hrw
   have hor:=or_any (eqs v xs) _ k wr hrw (by rw[eqs_len,←HN.out];omega)
   rw[eqs_len,←HN.out]at hor;generalize decV true (eqs v xs)=rr at *;generalize ctL (eqs v xs)=re at *;have HOR:=Hi hor;clear hq hrw hor;go_wp2_with fail;refine HOR.out.mono ?_;rintro e w4 ⟨rfl,hb4⟩;have hb5:=bthen hb hb4;have hv15:=Hi (hv1.out.later hb4);obtain⟨g0,g1,g2⟩:=hv15.out.cells;obtain⟨f0,f1,f2⟩:=hv15.out.free;simp only[zV]at g0 g1 g2;go_wp2_with fail;exact bodyPost_ret (v:= .tuple #[.agg #[.int .i64 rr.k,.int .i64 rr.i,.string rr.s],.int .i64 re]) (by simp[results,Tryz.results149,go_sem,g0,g1,g2]) rfl ⟨ret_vx HQ.out.2 HQ.out.1,Below.set3 hb5 (by omega) _ _ _⟩
theorem in_any(v:V)(xs:List V)(A:Option Addr)(c:Nat)(w:World)(hr:RowAt w w.heap.size A xs)(hm:xs.length≤2000) :
  Calls Tryz.prog 149 #[.agg #[.int .i64 v.k,.int .i64 v.i,.string v.s],.slice A xs.length c] w fun e w'=>e = .returned (.tuple #[.agg #[.int .i64 (inR v xs).k,.int .i64 (inR v xs).i,.string (inR v xs).s],.int .i64 (inE v xs)])∧Below w.heap.size w w':=by
 cases h:okIn v xs
 ·rw[(in_bad h).1,(in_bad h).2]
  exact in_any_bad v xs A c w hr hm h
 ·exact in_any_good v xs A c w hr hm h
end Go.Proofs.YtcicpjgnpcnnmaaGreatDoor.LG
