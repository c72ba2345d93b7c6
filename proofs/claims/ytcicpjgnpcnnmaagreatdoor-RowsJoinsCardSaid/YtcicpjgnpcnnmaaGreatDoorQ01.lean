import Derived.Lib.Bytealg
import Derived.Sort.Walk0
import Derived.Test.YtcicpjgnpcnnmaaGreatDoorProg
import Derived.WalkKit
import Derived.WalkSpells
import Derived.WalkLawsBesides
import Derived.Lib.Hide
import Derived.Deep.Light
import Derived.StillTailTactics
import Derived.Deep.AppendLies
import Derived.Deep.Slices
import Derived.Deep.Fields
import Derived.ChangeSame
import Derived.SizedLaws
import Derived.Lib.SmallJoins
import Derived.Test.YtcicpjgnpcnnmaaGreatDoorShelf
import Derived.Lib.Builder
import Derived.Lib.AppendStr
import Derived.Lib.UnsafeStr
import Derived.Lib.Walk
import Derived.Laws.Externs
import Derived.Laws.IdiomCopy
import Derived.Lib.Replace
import Derived.Lib.SplitLaws
import Derived.Lib.ItoaNum
set_option maxRecDepth 100000
set_option maxHeartbeats 2000000
namespace Go.Proofs.YtcicpjgnpcnnmaaGreatDoor.BV
structure V where
 k:Int
 i:Int
 s:ByteArray
structure CmpOk{α:Type}(c:α→α→Int):Prop where
 range:∀ a b,c a b = -1∨c a b=0∨c a b=1
 flip:∀ a b,c b a = - c a b
 zero:∀ a b,c a b=0↔a=b
 trans:∀ a b d,c a b = -1→c b d = -1→c a d = -1
def cmpI(a b:Int):Int:=if a < b then -1 else if b < a then 1 else 0
def cmpS(a b:ByteArray):Int:=Lib.compareBytes a.data.toList b.data.toList
def cmpV(k i:Int)(s:ByteArray)(k' i':Int)(s':ByteArray):Int:=if cmpI k k'=0 then (if cmpI i i'=0 then cmpS s s' else cmpI i i')else cmpI k k'
def cmpVV(x y:V):Int:=cmpV x.k x.i x.s y.k y.i y.s
def cmpL{α:Type}(c:α→α→Int):List α→List α→Int
 | [],[]=>0
 | [],_::_ => -1
 | _::_,[]=>1
 | a::l,b::m=>if c a b=0 then cmpL c l m else c a b
def cmpR(xs ys:List V):Int:=cmpL cmpVV xs ys
theorem cmpI_ok:CmpOk cmpI where
 range a b:=by unfold cmpI;split <;> (try split) <;> simp
 flip a b:=by unfold cmpI;split <;> split <;> (try split) <;> omega
 zero a b:=by unfold cmpI;split <;> (try split) <;> omega
 trans a b d:=by unfold cmpI;split <;> split <;> split <;> (try split) <;> (try split) <;> omega
theorem lex_ok{α β:Type}{c:α→α→Int}{d:β→β→Int}(hc:CmpOk c)(hd:CmpOk d):CmpOk fun(x y:α×β)=>if c x.1 y.1=0 then d x.2 y.2 else c x.1 y.1 where
 range x y:=by
  by_cases h:c x.1 y.1=0
  ·simp only[if_pos h];exact hd.range _ _
  ·simp only[if_neg h];exact hc.range _ _
 flip x y:=by
  have h1:=hc.flip x.1 y.1
  by_cases h:c x.1 y.1=0
  ·rw[if_pos h,if_pos (by omega)];exact hd.flip _ _
  ·rw[if_neg h,if_neg (by omega)];exact h1
 zero x y:=by
  obtain⟨x1,x2⟩:=x;obtain⟨y1,y2⟩:=y
  by_cases h:c x1 y1=0
  ·simp only[if_pos h,Prod.mk.injEq,hd.zero]
   exact⟨fun e=>⟨(hc.zero _ _).1 h,e⟩,fun e=>e.2⟩
  ·simp only[if_neg h,Prod.mk.injEq]
   exact⟨fun e=>absurd e h,fun e=>absurd ((hc.zero _ _).2 e.1) h⟩
 trans x y z h1 h2:=by
  obtain⟨x1,x2⟩:=x;obtain⟨y1,y2⟩:=y;obtain⟨z1,z2⟩:=z;simp only at h1 h2 ⊢
  by_cases a:c x1 y1=0
  ·rw[if_pos a]at h1
   obtain rfl:=(hc.zero _ _).1 a
   by_cases b:c x1 z1=0
   ·rw[if_pos b]at h2 ⊢;exact hd.trans _ _ _ h1 h2
   ·rw[if_neg b]at h2 ⊢;exact h2
  ·rw[if_neg a]at h1
   by_cases b:c y1 z1=0
   ·obtain rfl:=(hc.zero _ _).1 b
    rw[if_neg a];exact h1
   ·rw[if_neg b]at h2
    have:=hc.trans _ _ _ h1 h2;rw[if_neg (by omega)];exact this
theorem cmpL_ok{α:Type}{c:α→α→Int}(hc:CmpOk c):CmpOk (cmpL c) where
 range a:=by
  induction a with
  | nil=>intro b;cases b <;> simp[cmpL]
  | cons x a ih =>
   intro b;cases b with
   | nil=>simp[cmpL]
   | cons y b =>
    unfold cmpL
    split
    ·exact ih b
    ·exact hc.range _ _
 flip a:=by
  induction a with
  | nil=>intro b;cases b <;> simp[cmpL]
  | cons x a ih =>
   intro b;cases b with
   | nil=>simp[cmpL]
   | cons y b =>
    have h1:=hc.flip x y;unfold cmpL
    by_cases h:c x y=0
    ·rw[if_pos h,if_pos (by omega)];exact ih b
    ·rw[if_neg h,if_neg (by omega)];exact h1
 zero a:=by
  induction a with
  | nil=>intro b;cases b <;> simp[cmpL]
  | cons x a ih =>
   intro b;cases b with
   | nil=>simp[cmpL]
   | cons y b =>
    unfold cmpL
    by_cases h:c x y=0
    ·rw[if_pos h,ih b]
     simp[(hc.zero _ _).1 h]
    ·rw[if_neg h]
     simp only[List.cons.injEq];exact⟨fun e=>absurd e h,fun e=>absurd ((hc.zero _ _).2 e.1) h⟩
 trans a:=by
  induction a with
  | nil =>
   intro b d h1 h2;cases d with
   | nil=>cases b <;> simp[cmpL]at h1 h2
   | cons z d=>simp[cmpL]
  | cons x a ih =>
   intro b d h1 h2;cases b with
   | nil=>simp[cmpL]at h1
   | cons y b =>
    cases d with
    | nil=>simp[cmpL]at h2
    | cons z d =>
     unfold cmpL at h1 h2 ⊢
     by_cases p:c x y=0
     ·rw[if_pos p]at h1
      obtain rfl:=(hc.zero _ _).1 p
      by_cases q:c x z=0
      ·rw[if_pos q]at h2 ⊢;exact ih _ _ h1 h2
      ·rw[if_neg q]at h2 ⊢;exact h2
     ·rw[if_neg p]at h1
      by_cases q:c y z=0
      ·obtain rfl:=(hc.zero _ _).1 q
       rw[if_neg p];exact h1
      ·rw[if_neg q]at h2
       have:=hc.trans _ _ _ h1 h2;rw[if_neg (by omega)];exact this
def cmpU(a b:UInt8):Int:=if a < b then -1 else if b < a then 1 else 0
theorem cmpU_ok:CmpOk cmpU where
 range a b:=by unfold cmpU;split <;> (try split) <;> simp
 flip a b:=by unfold cmpU;simp only[UInt8.lt_iff_toNat_lt];split <;> split <;> (try split) <;> omega
 zero a b:=by
  unfold cmpU;simp only[UInt8.lt_iff_toNat_lt,←UInt8.toNat_inj]
  split <;> (try split) <;> omega
 trans a b d:=by unfold cmpU;simp only[UInt8.lt_iff_toNat_lt];split <;> split <;> split <;> (try split) <;> (try split) <;> omega
theorem compareBytes_cmpL:∀ a b:List UInt8,Lib.compareBytes a b=cmpL cmpU a b
 | [],[]=>rfl
 | [],_::_=>rfl
 | _::_,[]=>rfl
 | x::a,y::b=>by
  unfold Lib.compareBytes cmpL;rw[compareBytes_cmpL a b];unfold cmpU
  by_cases h:x < y
  ·simp[h]
  ·by_cases h':y < x <;> simp[h,h']
theorem cmpS_ok:CmpOk cmpS where
 range a b:=by unfold cmpS;rw[compareBytes_cmpL];exact(cmpL_ok cmpU_ok).range _ _
 flip a b:=by unfold cmpS;rw[compareBytes_cmpL,compareBytes_cmpL];exact(cmpL_ok cmpU_ok).flip _ _
 zero a b:=by
  unfold cmpS;rw[compareBytes_cmpL,(cmpL_ok cmpU_ok).zero]
  constructor
  ·intro h
   cases a;cases b;simp only[ByteArray.mk.injEq];exact Array.toList_inj.1 h
  ·intro h;rw[h]
 trans a b d:=by unfold cmpS;simp only[compareBytes_cmpL];exact(cmpL_ok cmpU_ok).trans _ _ _
theorem bytesLess_cmpS(a b:ByteArray):Op.bytesLess a.toList b.toList=decide (cmpS a b = -1):=by
 rw[Lib.toList_data,Lib.toList_data];unfold cmpS;rw[compareBytes_cmpL];generalize a.data.toList=x;generalize b.data.toList=y
 induction x generalizing y with
 | nil=>cases y <;> simp[Op.bytesLess,cmpL]
 | cons u x ih =>
  cases y with
  | nil=>simp[Op.bytesLess,cmpL]
  | cons v y =>
   unfold Op.bytesLess cmpL;rw[ih y];unfold cmpU
   by_cases h:u < v
   ·simp[h]
   ·by_cases h':v < u
    ·have hne:u≠v:=by intro e;subst e;exact h h'
     simp[h,h',hne]
    ·have he:u=v:=by
      simp only[UInt8.lt_iff_toNat_lt]at h h';exact UInt8.toNat_inj.1 (by omega)
     simp[he]
theorem V.ext{x y:V}(h1:x.k=y.k)(h2:x.i=y.i)(h3:x.s=y.s):x=y:=by
 cases x;cases y;simp_all
theorem cmpVV_ok:CmpOk cmpVV:=by
 have h:=lex_ok cmpI_ok (lex_ok cmpI_ok cmpS_ok);have e:∀ x y:V,cmpVV x y=(fun(x y:Int×Int×ByteArray)=>if cmpI x.1 y.1=0 then (if cmpI x.2.1 y.2.1=0 then cmpS x.2.2 y.2.2 else cmpI x.2.1 y.2.1)else cmpI x.1 y.1) (x.k,x.i,x.s) (y.k,y.i,y.s):=fun x y=>rfl
 exact {
  range:=fun a b=>by rw[e];exact h.range _ _
  flip:=fun a b=>by rw[e,e];exact h.flip _ _
  zero:=fun a b=>by
   rw[e,h.zero];simp only[Prod.mk.injEq];exact⟨fun q=>V.ext q.1 q.2.1 q.2.2,fun q=>by rw[q];simp⟩
  trans:=fun a b d=>by rw[e,e,e];exact h.trans _ _ _ }
theorem cmpR_ok:CmpOk cmpR:=cmpL_ok cmpVV_ok
theorem CmpOk.le_trans{α:Type}{c:α→α→Int}(h:CmpOk c){a b d:α}(h1:c a b≤0)(h2:c b d≤0):c a d≤0:=by
 rcases h.range a b with p | p | p
 ·rcases h.range b d with q | q | q
  ·have:=h.trans _ _ _ p q;omega
  ·obtain rfl:=(h.zero _ _).1 q;omega
  ·omega
 ·obtain rfl:=(h.zero _ _).1 p;omega
 ·omega
open Go.RowKit
theorem ret_int{k:IntKind}{a b:Int}(h:a=b):Ending.returned (.int k a) = .returned (.int k b):=by rw[h]
def emp(s:ByteArray):Bool:=s.toList.isEmpty
def mayB(k i:Int)(s:ByteArray):Bool :=
 if k == 0 then i == 0 && emp s else if k == 1 then (i == 0 || i == 1) && emp s else if k == 2 then emp s else if k == 3 || k == 4 then i == 0 else false
def sameB(k i:Int)(s:ByteArray)(k' i':Int)(s':ByteArray):Bool:=k == k' && (i == i' && s.toList == s'.toList)
def chkI(k i:Int)(s:ByteArray):Int:=if mayB k i s then 0 else 1
theorem mayBe_any(k i:Int)(s:ByteArray)(w:World) :
  Calls Tryz.prog 189 #[.agg #[.int .i64 k,.int .i64 i,.string s]] w fun e w'=>e = .returned (.bool (mayB k i s))∧Below w.heap.size w w':=by
 go_enter Tryz.func189,Tryz.ntmps189
 go_wp2
 all_goals go_ret
 all_goals refine⟨?_,(Below.refl _ _).alloc (Nat.le_refl _) _⟩
 all_goals (go_light;simp[mayB,emp, *])
theorem check_any(k i:Int)(s:ByteArray)(w:World) :
  Calls Tryz.prog 177 #[.agg #[.int .i64 k,.int .i64 i,.string s]] w fun e w'=>e = .returned (.int .i64 (chkI k i s))∧Below w.heap.size w w':=by
 cases hm:mayB k i s
 all_goals
  have HC:=mayBe_any k i s;rw[hm]at HC;have H:Hid (mayB k i s=_):=hm;clear hm;go_enter Tryz.func177,Tryz.ntmps177
  go_wp2_with (go_at_call 189;refine(HC _).mono ?_;rintro e w' ⟨rfl,hb⟩)
  go_ret
  exact⟨by simp[chkI,H.out],((Below.refl _ _).alloc (Nat.le_refl _) _).trans (hb.mono (by simp))⟩
def CellsAt(w:World)(b off:Nat)(v:V):Prop:=w.cell? ⟨b,off,none⟩=some (.int .i64 v.k)∧w.cell? ⟨b,off+1,none⟩=some (.int .i64 v.i)∧w.cell? ⟨b,off+2,none⟩=some (.string v.s)
def RowAt(w:World)(B:Nat)(A:Option Addr)(xs:List V):Prop:=0 < xs.length→∃ b off,A=some ⟨b,off,none⟩∧b < B∧∀ j (h:j < xs.length),CellsAt w b (off+j*3) xs[j]
def V.chk(v:V):Int:=chkI v.k v.i v.s
def allOk(xs:List V):Bool:=xs.all fun v=>v.chk == 0
def chkR(xs:List V):Int:=if allOk xs then (if 64 < xs.length then 2 else 0)else 1
theorem allOk_snoc{xs:List V}{k:Nat}(h:k < xs.length)(h0:xs[k].chk=0)(ha:allOk (xs.take k)=true):allOk (xs.take (k+1))=true:=by
 unfold allOk at ha ⊢;rw[List.take_succ_eq_append_getElem h,List.all_append,ha]
 simp[h0]
theorem chkR_bad{xs:List V}{k:Nat}{r:Int}(h:k < xs.length)(hx:xs[k].chk=r)(hr:¬r=0):r=chkR xs:=by
 have h1:r=1:=by
  rw[←hx]at hr ⊢;unfold V.chk chkI at hr ⊢
  split at hr <;> simp_all
 have h2:allOk xs=false:=by
  unfold allOk;rw[List.all_eq_false];exact⟨xs[k],List.getElem_mem h,by rw[hx];simpa using hr⟩
 unfold chkR;rw[h2,h1]
 rfl
theorem chkR_good{xs:List V}{n:Nat}{r:Int}(hn:n=xs.length)(ha:allOk (xs.take n)=true)(hr:r=if 64 < n then 2 else 0):r=chkR xs:=by
 subst hn;rw[List.take_length]at ha;unfold chkR;rw[ha,hr]
 rfl
theorem RowAt.below{w w':World}{B:Nat}{A:Option Addr}{xs:List V}(h:RowAt w B A xs)(hb:Below B w w'):RowAt w' B A xs:=by
 intro hl;obtain⟨b,off,hA,hlt,hc⟩:=h hl;refine⟨b,off,hA,hlt,fun j hj => ?_⟩
 obtain⟨h1,h2,h3⟩:=hc j hj;exact⟨(hb.cell (p:=⟨b,_,none⟩) hlt).trans h1,(hb.cell (p:=⟨b,_,none⟩) hlt).trans h2,(hb.cell (p:=⟨b,_,none⟩) hlt).trans h3⟩
theorem RowAt.mono{w:World}{B B':Nat}{A:Option Addr}{xs:List V}(h:RowAt w B A xs)(hB:B≤B'):RowAt w B' A xs:=fun hl=>by
 obtain⟨b,off,hA,hlt,hc⟩:=h hl;exact⟨b,off,hA,by omega,hc⟩
theorem RowAt.later{w w':World}{A:Option Addr}{xs:List V}(h:RowAt w w.heap.size A xs)(hb:Below w.heap.size w w'):RowAt w' w'.heap.size A xs:=(h.below hb).mono hb.size
theorem bthen{w w1 w2:World}(h:Below w.heap.size w w1)(h':Below w1.heap.size w1 w2):Below w.heap.size w w2:=h.trans (h'.mono h.size)
def RowSmall(xs:List V):Prop:=xs.length≤140737488355328∧∀ v∈xs,v.s.size≤140737488355328
structure R where
 A:Option Addr
 c:Nat
 xs:List V
def R.val(r:R):Value:= .slice r.A r.xs.length r.c
def RowsAt(w:World)(B:Nat)(A:Option Addr)(rs:List R):Prop :=
 (0 < rs.length→∃ b off,A=some ⟨b,off,none⟩∧b < B∧∀ j (h:j < rs.length),w.cell? ⟨b,off+j,none⟩=some rs[j].val)∧∀ r∈rs,RowAt w B r.A r.xs
theorem RowsAt.below{w w':World}{B:Nat}{A:Option Addr}{rs:List R}(h:RowsAt w B A rs)(hb:Below B w w'):RowsAt w' B A rs:=by
 refine⟨fun hl => ?_,fun r hr=>(h.2 r hr).below hb⟩
 obtain⟨b,off,hA,hlt,hc⟩:=h.1 hl;exact⟨b,off,hA,hlt,fun j hj=>(hb.cell (p:=⟨b,_,none⟩) hlt).trans (hc j hj)⟩
theorem rows_made(w:World)(rs:List R)(hrs:∀ r∈rs,RowAt w w.heap.size r.A r.xs)(cs:Array Value)(hcs:cs=(rs.map R.val).toArray)(T:TypeId) :
  RowsAt (w.alloc (.cells cs T)) (w.alloc (.cells cs T)).heap.size (some ⟨w.heap.size,0,none⟩) rs:=by
 refine⟨fun _=>⟨w.heap.size,0,rfl,by simp,fun j hj => ?_⟩,fun r hr=>(hrs r hr).later (Below.alloc (Below.refl _ _) (Nat.le_refl _) _)⟩
 have hn:(w.alloc (.cells cs T)).heap[w.heap.size]? = some (.cells cs T (0,0)):=heap_alloc_new w _;rw[Lib.cell_of_heap hn,hcs]
 simp[hj]
def Box(w:World)(g:Nat)(v:V):Prop:=CellsAt w g 0 v∧g < w.heap.size
theorem Box.below{w w':World}{g:Nat}{v:V}(h:Box w g v)(hb:Below w.heap.size w w'):Box w' g v :=
 ⟨⟨(hb.cell (p:=⟨g,0,none⟩) h.2).trans h.1.1,(hb.cell (p:=⟨g,0+1,none⟩) h.2).trans h.1.2.1,(hb.cell (p:=⟨g,0+2,none⟩) h.2).trans h.1.2.2⟩,Nat.lt_of_lt_of_le h.2 hb.size⟩
theorem Box.made(w:World)(v:V):Box (w.alloc (.cells #[.int .i64 v.k,.int .i64 v.i,.string v.s] 26)) w.heap.size v:=by
 have hn:(w.alloc (.cells #[.int .i64 v.k,.int .i64 v.i,.string v.s] 26)).heap[w.heap.size]? = some (.cells _ 26 (0,0)):=heap_alloc_new w _;exact⟨⟨by rw[Lib.cell_of_heap hn];rfl,by rw[Lib.cell_of_heap hn];rfl,by rw[Lib.cell_of_heap hn];rfl⟩,by simp⟩
theorem rcheck_any(k i:Int)(s:ByteArray)(w:World) :
  Calls Tryz.prog 55 #[.agg #[.int .i64 k,.int .i64 i,.string s]] w fun e w'=>e = .returned (.int .i64 (chkI k i s))∧Below w.heap.size w w':=by
 go_enter Tryz.func55,Tryz.ntmps55
 go_wp2
 all_goals go_ret
 all_goals refine⟨?_,(Below.refl _ _).alloc (Nat.le_refl _) _⟩
 all_goals (go_light;simp_all [chkI,mayB,emp])
def c3(v:V):List Value:=[.int .i64 v.k,.int .i64 v.i,.string v.s]
def flat(xs:List V):List Value:=xs.flatMap c3
theorem flat_len(xs:List V):(flat xs).length=xs.length*3:=by
 induction xs with
 | nil=>rfl
 | cons a l ih=>show(c3 a++flat l).length=_;rw[List.length_append,ih];simp[c3];omega
theorem flat_one(xs:List V):∀ u∈flat xs,u.oneCell'=true:=by
 intro u hu;obtain⟨v,_,hv⟩:=List.mem_flatMap.1 hu
 simp[c3]at hv
 rcases hv with rfl | rfl | rfl <;> rfl
theorem flat_get(xs:List V)(j t:Nat)(hj:j < xs.length)(ht:t < 3):(flat xs)[j*3+t]? = (c3 xs[j])[t]? := by
 induction xs generalizing j with
 | nil=>simp at hj
 | cons a l ih =>
  show(c3 a++flat l)[j*3+t]? = _
  cases j with
  | zero =>
   rw[List.getElem?_append_left (by simp[c3];omega)]
   simp
  | succ j =>
   rw[List.getElem?_append_right (by simp[c3];omega)]
   rw[show(j+1)*3+t - (c3 a).length=j*3+t by simp[c3];omega,ih j (by simpa using hj)]
   simp
theorem RowAt.flat{w:World}{B:Nat}{b off:Nat}{xs:List V}(h:RowAt w B (some ⟨b,off,none⟩) xs):∀ j u,(BV.flat xs)[j]? = some u→w.cell? ((⟨b,off,none⟩:Addr).add j)=some u:=by
 intro j u hu
 have hl:j < xs.length*3:=by
  have:=(List.getElem?_eq_some_iff.1 hu).1
  rwa [flat_len]at this
 obtain⟨b',off',hA,hlt,hc⟩:=h (by omega)
 simp at hA
 obtain⟨rfl,rfl⟩:=hA;have hq:j / 3 < xs.length:=by omega
 obtain⟨h0,h1,h2⟩:=hc (j / 3) hq;rw[show j=j / 3*3+j % 3 by omega,flat_get xs (j / 3) (j % 3) hq (by omega)]at hu
 rw[WideShapes.add_plain];have h3:j % 3=0∨j % 3=1∨j % 3=2:=by omega
 rcases h3 with h3 | h3 | h3
 ·rw[h3]at hu
  simp[c3]at hu
  rw[←hu,show off+j=off+j / 3*3 by omega];exact h0
 ·rw[h3]at hu
  simp[c3]at hu
  rw[←hu,show off+j=off+j / 3*3+1 by omega];exact h1
 ·rw[h3]at hu
  simp[c3]at hu
  rw[←hu,show off+j=off+j / 3*3+2 by omega];exact h2
theorem RowAt.of_flat{w:World}{g:Nat}{ys:List V}(h:∀ j u,(BV.flat ys)[j]? = some u→w.cell? ((⟨g,0,none⟩:Addr).add j)=some u)(hg:g < w.heap.size):RowAt w w.heap.size (some ⟨g,0,none⟩) ys:=fun _=>by
 refine⟨g,0,rfl,hg,fun j hj => ?_⟩
 have e0:=h (j*3+0) _ (flat_get ys j 0 hj (by omega))
 have e1:=h (j*3+1) _ (flat_get ys j 1 hj (by omega))
 have e2:=h (j*3+2) _ (flat_get ys j 2 hj (by omega))
 rw[WideShapes.add_plain]at e0 e1 e2;exact⟨e0,e1,e2⟩
end Go.Proofs.YtcicpjgnpcnnmaaGreatDoor.BV
namespace Go.Proofs.YtcicpjgnpcnnmaaGreatDoor.BV
open Go.RowKit Go.ChangeShapes Go.WideShapes Go.Deep
section
variable {H : Type} {enc : TypeId × Value → H} {W : World}
theorem weightsAll_mem{P:Program}{e:TypeId}:∀ {ds:List (DataW H)}{d:DataW H},d∈ds→∀ n∈d.weights P e,n∈DataW.weightsAll P e ds
 | d0::ds,d,hd,n,hn=>by
  simp only[DataW.weightsAll,List.mem_append];rcases List.mem_cons.1 hd with rfl | h
  ·exact Or.inl hn
  ·exact Or.inr (weightsAll_mem h n hn)
theorem weights_elem{P:Program}{t e:TypeId}{ds sp:List (DataW H)}(ht:P.underlying t=some (.slice e)){d:DataW H}(hd:d∈ds):∀ n∈d.weights P e,n∈(DataW.slice ds sp:DataW H).weights P t:=fun n hn=>by
 simp only[DataW.weights,ht,List.mem_cons,List.mem_append];exact Or.inr (Or.inl (weightsAll_mem hd n hn))
theorem cell_in{w:World}{b o:Nat}{v:Value}(h:w.cell? ⟨b,o,none⟩=some v):b < w.heap.size:=by
 rcases Nat.lt_or_ge b w.heap.size with h' | h'
 ·exact h'
 ·simp[World.cell?,Array.getElem?_eq_none h']at h
def V.fits(v:V):Prop := -9223372036854775808≤v.k∧v.k≤9223372036854775807 ∧ -9223372036854775808≤v.i∧v.i≤9223372036854775807
theorem wf64{n:Int}(h:(Lit.int .i64 n).wf=true) : -9223372036854775808≤n∧n≤9223372036854775807:=by
 simpa [Lit.wf,IntKind.min,IntKind.max,IntKind.signed,IntKind.bits]using h
theorem len3{α:Type}{l:List α}(h:l.length=3):∃ a b c,l = [a,b,c]:=by
 match l,h with
 | [a,b,c],_=>exact⟨a,b,c,rfl⟩
theorem open_vals{ts:TypeId}(hts:Tryz.prog.underlying ts=some (.slice 26)){fuel:Nat}{a0:Option Addr}{len cap:Nat}{x:DataW H×List MemPlace}(hf:DataW.trod enc Tryz.prog W 0 (fun _=>true) true fuel ts [.slice a0 len cap]=some x)(hsz:∀ n∈x.1.weights Tryz.prog ts,n≤reachBytes) :
  ∃ xs:List V,xs.length=len∧RowAt W W.heap.size a0 xs∧xs.length≤140737488355328∧(∀ v∈xs,v.s.size≤140737488355328)∧(∀ v∈xs,v.fits)∧len≤cap∧cap≤140737488355328:=by
 rcases open_slice hts hf with ⟨hcs,hx⟩ | ⟨a,len',cap',m,n,D,Pl,hcs,hb,hl,hm,hmm,hx,hi⟩
 ·simp at hcs
  obtain⟨rfl,rfl,rfl⟩:=hcs;exact⟨[],rfl,fun h=>absurd h (by simp),by simp,by simp,by simp,Nat.le_refl _,by omega⟩
 ·simp at hcs
  obtain⟨rfl,rfl,rfl⟩:=hcs;subst hx;simp only[if_true]at hmm;subst hmm;have c29:Tryz.prog.cellsOf 26=3:=by kernel_rfl
  have b29:Tryz.prog.bytesOf 26=32:=by kernel_rfl
  have hcap:m≤140737488355328:=by
   have:=hsz ((((List.range len).map D).length+((List.range (m - len)).map fun j=>D (len+j)).length)*Tryz.prog.bytesOf 26) (by simp only[DataW.weights,hts,List.mem_cons];exact Or.inl trivial)
   rw[b29]at this
   simp at this
   have:=reachBytes_lt
   omega
  obtain⟨b,o,spot⟩:=a
  have hspot:0 < len→spot=none:=by
   intro h0;obtain⟨cs',hc,_⟩:=hi 0 (by omega)
   rw[c29]at hc;obtain⟨_,hcl,hat⟩:=World.cells?_some hc;obtain⟨v0,v1,v2,rfl⟩:=len3 hcl;have q0:=hat 0 (by omega)
   have:=World.cell?_spot (show W.cell? _=some _ from q0)
   simpa [Addr.add]using this
  have key:∀ i,i < len→∃ v:V,CellsAt W b (o+i*3) v∧v.fits∧D i = .agg [.lit (.int .i64 v.k),.lit (.int .i64 v.i),.lit (.string v.s.data.toList)]:=by
   intro i hil;obtain⟨cs',hc,ht⟩:=hi i (by omega)
   rw[c29]at hc;obtain⟨_,hcl,hat⟩:=World.cells?_some hc;obtain⟨ys,n',_,hy,_,hyl,hf'⟩:=DataW.trod_struct Tryz.underlying26 ht;obtain⟨y0,y1,y2,rfl⟩:=len3 hyl;obtain⟨v0,v1,v2,rfl⟩:=len3 hcl;have g0:=hf' 0 _ rfl;have g1:=hf' 1 _ rfl;have g2:=hf' 2 _ rfl;have c3:Tryz.prog.cellsOf 3=1:=by kernel_rfl
   have c2:Tryz.prog.cellsOf 2=1:=by kernel_rfl
   have c9:Tryz.prog.cellsOf 9=1:=by kernel_rfl
   obtain⟨k,e0,e0',wk⟩:=DataW.trod_int Tryz.underlying3 (show DataW.trod enc Tryz.prog W 0 (fun _=>true) true n' 3 (([v0,v1,v2].drop 0).take (Tryz.prog.cellsOf 3))=some y0 from g0)
   obtain⟨j,e1,e1',wj⟩:=DataW.trod_int Tryz.underlying2 (show DataW.trod enc Tryz.prog W 0 (fun _=>true) true n' 2 (([v0,v1,v2].drop 1).take (Tryz.prog.cellsOf 2))=some y1 from g1)
   obtain⟨s,e2,e2',ws⟩:=DataW.trod_string Tryz.underlying9 (show DataW.trod enc Tryz.prog W 0 (fun _=>true) true n' 9 (([v0,v1,v2].drop 2).take (Tryz.prog.cellsOf 9))=some y2 from g2)
   rw[c3]at e0;rw[c2]at e1;rw[c9]at e2
   simp at e0 e1 e2
   subst e0 e1 e2;have q0:=hat 0 (by omega)
   have q1:=hat 1 (by omega)
   have q2:=hat 2 (by omega)
   obtain rfl:=hspot (by omega)
   rw[add_plain,add_plain]at q0 q1 q2;simp only[Prod.mk.injEq]at hy;exact⟨⟨k,j,s⟩,⟨q0,q1,q2⟩,⟨(wf64 wk).1,(wf64 wk).2,(wf64 wj).1,(wf64 wj).2⟩,by rw[hy.1,e0',e1',e2'];rfl⟩
  have:Inhabited V:=⟨⟨0,0,⟨#[]⟩⟩⟩;obtain⟨F,hF⟩:=choose_lt key
  have hmem:∀ v∈(List.range len).map F,∃ i,i < len∧F i=v:=fun v hv=>by
   obtain⟨i,hi',rfl⟩:=List.mem_map.1 hv;exact⟨i,List.mem_range.1 hi',rfl⟩
  refine⟨(List.range len).map F,by simp,fun hl0 => ?_,by simp;omega,fun v hv => ?_,fun v hv => ?_,hl,hcap⟩
  ·have hl0':0 < len:=by simpa using hl0
   obtain rfl:=hspot hl0';refine⟨b,o,rfl,cell_in (hF 0 hl0').1.1,fun j hj => ?_⟩
   have hj':j < len:=by simpa using hj
   have:=(hF j hj').1
   simpa using this
  ·obtain⟨i,hi',rfl⟩:=hmem v hv
   have h1:=hsz (F i).s.data.toList.length (weights_elem hts (d:=D i) (List.mem_map.2 ⟨i,List.mem_range.2 hi',rfl⟩) _ (by
    rw[(hF i hi').2.2]
    simp[DataW.weights,Tryz.underlying26,DataW.weightsEach]))
   have:=reachBytes_lt;have h2:(F i).s.data.toList.length=(F i).s.size:=by simp
   omega
  ·obtain⟨i,hi',rfl⟩:=hmem v hv
   exact(hF i hi').2.1
end
end Go.Proofs.YtcicpjgnpcnnmaaGreatDoor.BV
namespace Go.Proofs.YtcicpjgnpcnnmaaGreatDoor.BV
open Go.RowKit
theorem same_any(k i k' i': Int)(s s':ByteArray)(w:World) :
  Calls Tryz.prog 61 #[.agg #[.int .i64 k,.int .i64 i,.string s],.agg #[.int .i64 k',.int .i64 i',.string s']] w fun e w'=>e = .returned (.bool (sameB k i s k' i' s'))∧Below w.heap.size w w':=by
 go_enter Tryz.func61,Tryz.ntmps61
 go_wp2
 all_goals go_ret
 all_goals refine⟨?_,((Below.refl _ _).alloc (Nat.le_refl _) _).alloc (by simp) _⟩
 all_goals (go_light;simp[sameB, *])
theorem rsame_any(k i k' i': Int)(s s':ByteArray)(w:World) :
  Calls Tryz.prog 69 #[.agg #[.int .i64 k,.int .i64 i,.string s],.agg #[.int .i64 k',.int .i64 i',.string s']] w fun e w'=>e = .returned (.bool (sameB k i s k' i' s'))∧Below w.heap.size w w':=by
 go_enter Tryz.func69,Tryz.ntmps69
 go_wp2
 all_goals go_ret
 all_goals refine⟨?_,((Below.refl _ _).alloc (Nat.le_refl _) _).alloc (by simp) _⟩
 all_goals (go_light;simp[sameB, *])
theorem infoB:(Tryz.prog.info? 187).map (fun j=>j.size)=some 2:=by kernel_rfl
theorem liesB:liesAt Tryz.prog Tryz.prog.depth 206 (2 / Tryz.prog.cellsOf 206) 0 187 1=true:=by kernel_rfl
theorem info5:(Tryz.prog.info? 5).map (fun i=>(i.zero,i.size,i.bytes))=some (some (.int .u8 0),1,1):=by kernel_rfl
theorem copyCheck_used(b:Nat)(w:World)(h0:w.cell? ⟨b,0,none⟩=some (.pointer (some ⟨b,0,none⟩))) :
  Calls Tryz.prog 185 #[.pointer (some ⟨b,0,none⟩)] w fun e w'=>e = .returned (.tuple #[])∧w'=w:=by
 obtain⟨j,hj,_⟩:=Option.map_eq_some_iff.1 infoB;go_enter Tryz.func185,Tryz.ntmps185
 go_wp2
 rw[Lib.run_neq_ptr_same w _ Tryz.underlying184 hj]
 go_wp2
 go_end0
 exact⟨rfl,rfl⟩
theorem copyCheck_fresh(b:Nat)(w:World)(h0:w.cell? ⟨b,0,none⟩=some (.pointer none))(hsh:w.shape? b=some (206,2))(hfz:w.frozen? ⟨b,0,none⟩=false) :
  Calls Tryz.prog 185 #[.pointer (some ⟨b,0,none⟩)] w fun e w'=>e = .returned (.tuple #[])∧w'=w.setCell ⟨b,0,none⟩ (.pointer (some ⟨b,0,none⟩)):=by
 obtain⟨j,hj,hjs⟩:=Option.map_eq_some_iff.1 infoB;go_enter Tryz.func185,Tryz.ntmps185
 go_wp2
 rw[Lib.run_to_unsafe w ⟨b,0,none⟩ Tryz.underlying184 Tryz.underlying221 hj (by rw[hjs];decide) hsh (Nat.zero_lt_succ 1)]
 simp only[Result.andThen];rw[Oper.upon_value]
 go_wp2
 rw[run_callFunc_extern Tryz.func208 (by kernel_rfl) (by kernel_rfl) (by kernel_rfl) (e:=Extern.AbiNoEscape.same) (by kernel_rfl)]
 rw[Lib.run_noEscape];simp only[Result.andThen];rw[Oper.upon_value]
 go_wp2
 rw[Lib.run_from_unsafe w ⟨b,0,none⟩ Tryz.underlying221 Tryz.underlying184 hj hsh liesB];simp only[Result.andThen];rw[Oper.upon_value]
 go_wp2
 go_end0
 exact⟨rfl,rfl⟩
def Keep(w w':World):Prop:=∀ (k:Nat)(cs:Array Value)(t:TypeId)(f:Nat×Nat),t≠206→t≠5→w.heap[k]? = some (.cells cs t f)→w'.heap[k]? = some (.cells cs t f)
theorem Keep.refl(w:World):Keep w w:=fun _ _ _ _ _ _ h=>h
theorem Keep.trans{a b c:World}(h:Keep a b)(h':Keep b c):Keep a c:=fun k cs t f h1 h2 h3=>h' k cs t f h1 h2 (h k cs t f h1 h2 h3)
theorem Keep.setCell{w:World}{b o:Nat}{c:Array Value}{f:Nat×Nat}(hb:w.heap[b]? = some (.cells c 206 f))(u:Value):Keep w (w.setCell ⟨b,o,none⟩ u):=fun k cs t f' h1 _ h3=>by
 rw[Below.heap_setCell w _ _ k ?_]
 ·exact h3
 ·intro e
  have e':k=b:=e;subst e';rw[hb]at h3
  simp at h3
  exact h1 h3.2.1.symm
theorem Keep.grown{w w':World}{v:Value}{n:Nat}{B:Nat}{xs:List Value}(hg:w.grownBy w' v.ownBlock)(hown:w.ownsRow B 5 1 v n xs):Keep w w':=fun k cs t f _ h2 h3=>by
 have hlt:k < w.heap.size:=by
  rcases Nat.lt_or_ge k w.heap.size with h' | h'
  ·exact h'
  ·simp[Array.getElem?_eq_none h']at h3
 rw[hg.block k hlt ?_]
 ·exact h3
 ·intro e
  rcases hown.2 with ⟨hv,_⟩ | ⟨g,cap,cur,hv,_,hgg,_⟩
  ·rw[hv]at e;simp[Value.ownBlock]at e
  ·rw[hv]at e
   simp[Value.ownBlock]at e
   subst e;rw[hgg]at h3
   simp at h3
   exact h2 h3.2.1.symm
theorem Keep.alloc(w:World)(o:Obj):Keep w (w.alloc o):=fun k cs t f _ _ h3=>by
 have hlt:k < w.heap.size:=by
  rcases Nat.lt_or_ge k w.heap.size with h' | h'
  ·exact h'
  ·simp[Array.getElem?_eq_none h']at h3
 rw[Below.heap_alloc w o k hlt];exact h3
theorem copyCheck_any(B b:Nat)(bs:List Value)(w:World)(h:Lib.IsBuilder 206 5 B b bs w) :
  Calls Tryz.prog 185 #[.pointer (some ⟨b,0,none⟩)] w fun e w'=>e = .returned (.tuple #[])∧(Lib.BuilderAt 206 5 B b (.pointer (some ⟨b,0,none⟩)) bs w'∧Below B w w'∧Keep w w'):=by
 rcases h with h | h
 ·refine(copyCheck_fresh b w h.cell0 h.shape h.frozen0).mono ?_
  rintro e w' ⟨rfl,rfl⟩;obtain⟨_,v,hbk,_⟩:=id h;exact⟨rfl,h.used _,(Below.refl B w).setCell (p:=⟨b,0,none⟩) h.1 _,Keep.setCell hbk _⟩
 ·refine(copyCheck_used b w h.cell0).mono ?_
  rintro e w' ⟨rfl,rfl⟩;exact⟨rfl,h,Below.refl B _,Keep.refl _⟩
theorem writeByte_any(B b:Nat)(bs:List Value)(c:Int)(w:World)(h:Lib.IsBuilder 206 5 B b bs w)(hlen:bs.length+1≤140737488355328)(hBw:B≤w.heap.size) :
  Calls Tryz.prog 164 #[.pointer (some ⟨b,0,none⟩),.int .u8 c] w fun e w'=>e = .returned .nilIface∧(Lib.IsBuilder 206 5 B b (bs ++ [.int .u8 c]) w'∧Below B w w'∧Keep w w'):=by
 obtain⟨i0,hi,hz0,hz1,hz2⟩:=info_parts info5;go_enter Tryz.func164,Tryz.ntmps164
 go_wp2_with (go_at_call 185;refine(copyCheck_any B b bs _ h).mono ?_)
 rintro e w1 ⟨rfl,h1,hb1,hk1⟩;obtain⟨hB,v,hbk,hown,hne⟩:=h1;have c0:w1.cell? ⟨b,0,none⟩=some (.pointer (some ⟨b,0,none⟩)):=by rw[Lib.cell_of_heap hbk];rfl
 have c1:w1.cell? ⟨b,1,none⟩=some v:=by rw[Lib.cell_of_heap hbk];rfl
 go_wp2_with (at_builtin;refine wpList_append_own _ rfl _ _ 185 rfl B 5 i0 (.int .u8 0) 1 1 Tryz.underlying185 hi hz0 hz1 hz2 rfl (by decide) _ _ _ rfl (hown.alloc _) ⟨w1.heap.size,0,none⟩ 1 1 [.int .u8 c] rfl rfl ?c1 ?c2 ?c3 ?c4 ?c5 ?_)
 case c1 =>
  intro j u hj
  match j,hj with
  | 0,hj=>simp at hj;subst hj;simp[Addr.add]
 case c2=>intro u hu;simp at hu;subst hu;rfl
 case c3=>unfold maxLen;omega
 case c4=>omega
 case c5=>have:=hb1.size;simp;omega
 intro v' w2 hown' hgrow _
 have hlt:b < w1.heap.size:=by
  rcases Nat.lt_or_ge b w1.heap.size with h' | h'
  ·exact h'
  ·simp[Array.getElem?_eq_none h']at hbk
 have hb2:w2.heap[b]? = some (.cells #[.pointer (some ⟨b,0,none⟩),v] 206 (0,0)):=by
  rw[hgrow.block b (by simp;omega) (fun e=>hne e.symm),Lib.alloc_old w1 _ b hlt]
  exact hbk
 have d0:w2.cell? ⟨b,0,none⟩=some (.pointer (some ⟨b,0,none⟩)):=by rw[Lib.cell_of_heap hb2];rfl
 have d1:w2.cell? ⟨b,1,none⟩=some v:=by rw[Lib.cell_of_heap hb2];rfl
 have f1:w2.frozen? ⟨b,1,none⟩=false:=Lib.frozen_of_heap hb2 1
 obtain⟨g,cap,rfl⟩:∃ g cap,v' = .slice (some ⟨g,0,none⟩) (bs.length+1) cap:=by
  rcases hown'.2 with ⟨_,h0⟩ | ⟨g,cap,cur,hv,_⟩
  ·omega
  ·exact⟨g,cap,hv⟩
 go_wp2
 go_ret
 refine⟨rfl,Or.inr ?_,?_,?_⟩
 ·exact Lib.BuilderAt.put (T:=206) (e:=5) hB hb2 (bs':=bs ++ [.int .u8 c]) (by simpa using hown') (by decide)
 ·exact((hb1.alloc (by have:=hb1.size;omega) _).grown hgrow (by have:=hb1.size;simp;omega) (fun k hk=>(hown.lt k hk).1)).setCell (p:=⟨b,1,none⟩) hB _
 ·exact((hk1.trans (Keep.alloc _ _)).trans (Keep.grown hgrow (hown.alloc _))).trans (Keep.setCell hb2 _)
theorem writeString_any(B b:Nat)(bs:List Value)(s:ByteArray)(w:World)(h:Lib.IsBuilder 206 5 B b bs w)(hlen:bs.length+s.size≤140737488355328)(hBw:B≤w.heap.size) :
  Calls Tryz.prog 163 #[.pointer (some ⟨b,0,none⟩),.string s] w fun e w'=>e = .returned (.tuple #[.int .i64 s.size,.nilIface])∧(Lib.IsBuilder 206 5 B b (bs++Lib.strCells s) w'∧Below B w w'∧Keep w w'):=by
 obtain⟨i0,hi,hz0,hz1,hz2⟩:=info_parts info5;go_enter Tryz.func163,Tryz.ntmps163
 go_wp2_with (go_at_call 185;refine(copyCheck_any B b bs _ h).mono ?_)
 rintro e w1 ⟨rfl,h1,hb1,hk1⟩;obtain⟨hB,v,hbk,hown,hne⟩:=h1;have c0:w1.cell? ⟨b,0,none⟩=some (.pointer (some ⟨b,0,none⟩)):=by rw[Lib.cell_of_heap hbk];rfl
 have c1:w1.cell? ⟨b,1,none⟩=some v:=by rw[Lib.cell_of_heap hbk];rfl
 go_wp2_with (at_builtin;refine Lib.wpList_append_own_string _ rfl _ _ 185 9 rfl B 5 i0 Tryz.underlying185 Tryz.underlying9 hi hz0 hz1 hz2 _ _ _ rfl hown s rfl ?c3 ?c4 ?c5 ?_)
 case c3=>unfold maxLen;omega
 case c4=>omega
 case c5=>have:=hb1.size;omega
 intro v' w2 hown' hgrow _
 have hlt:b < w1.heap.size:=by
  rcases Nat.lt_or_ge b w1.heap.size with h' | h'
  ·exact h'
  ·simp[Array.getElem?_eq_none h']at hbk
 have hb2:w2.heap[b]? = some (.cells #[.pointer (some ⟨b,0,none⟩),v] 206 (0,0)):=by
  rw[hgrow.block b hlt (fun e=>hne e.symm)]
  exact hbk
 have d0:w2.cell? ⟨b,0,none⟩=some (.pointer (some ⟨b,0,none⟩)):=by rw[Lib.cell_of_heap hb2];rfl
 have d1:w2.cell? ⟨b,1,none⟩=some v:=by rw[Lib.cell_of_heap hb2];rfl
 have f1:w2.frozen? ⟨b,1,none⟩=false:=Lib.frozen_of_heap hb2 1
 obtain⟨ao,n',cap,rfl⟩:∃ ao n' cap,v' = .slice ao n' cap:=by
  rcases hown'.2 with ⟨hv,_⟩ | ⟨g,cap,cur,hv,_⟩
  ·exact⟨_,_,_,hv⟩
  ·exact⟨_,_,_,hv⟩
 go_wp2
 go_ret2
 refine⟨rfl,Or.inr ?_,?_,?_⟩
 ·exact Lib.BuilderAt.put (T:=206) (e:=5) hB hb2 (bs':=bs++Lib.strCells s) (by simpa [Lib.strCells_length]using hown') (by decide)
 ·exact(hb1.grown hgrow (by have:=hb1.size;omega) (fun k hk=>(hown.lt k hk).1)).setCell (p:=⟨b,1,none⟩) hB _
 ·exact(hk1.trans (Keep.grown hgrow hown)).trans (Keep.setCell hb2 _)
theorem string_some(B b:Nat)(l:List UInt8)(w:World)(h:Lib.IsBuilder 206 5 B b (Lib.byteCells l) w)(h0:l≠[]) :
  Calls Tryz.prog 165 #[.pointer (some ⟨b,0,none⟩)] w fun e w'=>e = .returned (.string ⟨l.toArray⟩)∧Below B w w':=by
 obtain⟨p,hB,v,hbk,hown,hne⟩:∃ p,Lib.BuilderAt 206 5 B b p (Lib.byteCells l) w:=by
  rcases h with h | h
  ·exact⟨_,h⟩
  ·exact⟨_,h⟩
 have hl0:l.length≠0:=by simpa using h0
 rw[Lib.byteCells_length]at hown
 obtain⟨g,cap,cur,rfl,hbg,hg,hnc,hcm,hcs,htake⟩:∃ g cap cur,v = .slice (some ⟨g,0,none⟩) l.length cap∧B≤g∧w.heap[g]? = some (.cells cur 5 (0,0))∧l.length≤cap∧cap≤maxLen∧cur.size=cap*1∧cur.toList.take (l.length*1)=Lib.byteCells l:=by
  rcases hown.2 with ⟨_,hz⟩ | ⟨g,cap,cur,hv,r⟩
  ·exact absurd hz hl0
  ·exact⟨g,cap,cur,hv,r⟩
 have c1:w.drew.cell? ⟨b,1,none⟩=some (.slice (some ⟨g,0,none⟩) l.length cap):=by
  have:w.drew.heap[b]? = some (.cells #[p,.slice (some ⟨g,0,none⟩) l.length cap] 206 (0,0)):=hbk;rw[Lib.cell_of_heap this];rfl
 have hSD:(Builtin.unsafeSliceData_ #[185] 208 #[.slice (some ⟨g,0,none⟩) l.length cap]).run Tryz.prog w.drew = .ok (.pointer (some ⟨g,0,none⟩)) w.drew :=
  Lib.run_unsafeSliceData_row _ _ _ _ _ _ (by omega)
 have hUS:(Builtin.unsafeString_ #[208,3] 9 #[.pointer (some ⟨g,0,none⟩),.int .i64 l.length]).run Tryz.prog w.drew = .ok (.string ⟨l.toArray⟩) (w.drew.freeze ⟨g,0,none⟩ l.length):=by
  refine Lib.run_unsafeString_row w.drew 208 3 9 5 Tryz.underlying208 (by kernel_rfl) g cur.size (by have hg':w.drew.heap[g]? = some (.cells cur 5 (0,0)):=hg;simp[World.shape?,hg']) l h0 (by omega) (by unfold maxLen at hcm;omega) ?_
  intro j x hx;have:=hown.cells (g:=g) rfl j (.int .u8 x.toNat) (by simp[Lib.byteCells,hx])
  exact this
 go_enter Tryz.func165,Tryz.ntmps165
 go_wp2
 go_region
 all_goals (go_wp2;go_ret;exact⟨rfl,Lib.below_freeze (Below.drew (Below.refl B w)) (p:=⟨g,0,none⟩) hbg _⟩)
def W63(B b:Nat)(l:List UInt8)(w:World):Prop:=Lib.IsBuilder 206 5 B b (Lib.byteCells l) w
theorem W63.lt{B b:Nat}{l:List UInt8}{w:World}(h:W63 B b l w):B≤b∧b < w.heap.size:=by
 rcases h with h | h
 ·exact⟨h.1,h.lt⟩
 ·exact⟨h.1,h.lt⟩
theorem W63.below{B b:Nat}{l:List UInt8}{w w':World}(h:W63 B b l w)(hb:Below w.heap.size w w'):W63 B b l w':=by
 have hlt:=(W63.lt h).2
 have key:∀ p,Lib.BuilderAt 206 5 B b p (Lib.byteCells l) w→Lib.BuilderAt 206 5 B b p (Lib.byteCells l) w':=fun p ⟨hB,v,hk,hown,hne⟩ =>
  ⟨hB,v,(hb.block b hlt).trans hk,hown.kept (row:=none) ⟨hb.os,hb.tape,hb.output,hb.size,fun k hk _=>hb.block k hk⟩ (by rcases h:v.ownBlock with _ | g <;> simp),hne⟩
 rcases h with h | h
 ·exact Or.inl (key _ h)
 ·exact Or.inr (key _ h)
theorem W63.drew{B b:Nat}{l:List UInt8}{w:World}(h:W63 B b l w):W63 B b l w.drew:=h
theorem wByte(B b:Nat)(l:List UInt8)(u:UInt8)(c:Int)(w:World)(hc:c=u.toNat)(h:W63 B b l w)(hlen:l.length≤140737488355327)(hBw:B≤w.heap.size) :
  Calls Tryz.prog 164 #[.pointer (some ⟨b,0,none⟩),.int .u8 c] w fun e w'=>e = .returned .nilIface∧W63 B b (l ++ [u]) w'∧Below B w w'∧Keep w w':=by
 subst hc;refine(writeByte_any B b _ _ w h (by simp only[Lib.byteCells_length];omega) hBw).mono fun _ _ ⟨h1,h2,h3,h4⟩=>⟨h1,?_,h3,h4⟩
 unfold W63;rw[show Lib.byteCells (l ++ [u])=Lib.byteCells l ++ [.int .u8 u.toNat] by simp[Lib.byteCells]]
 exact h2
theorem wString(B b:Nat)(l:List UInt8)(s:ByteArray)(w:World)(h:W63 B b l w)(hlen:l.length+s.size≤140737488355328)(hBw:B≤w.heap.size) :
  Calls Tryz.prog 163 #[.pointer (some ⟨b,0,none⟩),.string s] w fun e w'=>e = .returned (.tuple #[.int .i64 s.size,.nilIface])∧W63 B b (l++s.data.toList) w'∧Below B w w'∧Keep w w':=by
 refine(writeString_any B b _ s w h (by simp only[Lib.byteCells_length];omega) hBw).mono fun _ _ ⟨h1,h2,h3,h4⟩=>⟨h1,?_,h3,h4⟩
 unfold W63;rw[show Lib.byteCells (l++s.data.toList)=Lib.byteCells l++Lib.strCells s by simp[Lib.byteCells,Lib.strCells]]
 exact h2
theorem wText(B b:Nat)(l:List UInt8)(w:World)(h:W63 B b l w)(h0:l≠[]) :
  Calls Tryz.prog 165 #[.pointer (some ⟨b,0,none⟩)] w fun e w'=>e = .returned (.string ⟨l.toArray⟩)∧Below B w w':=string_some B b l w h h0
end Go.Proofs.YtcicpjgnpcnnmaaGreatDoor.BV
namespace Go.Proofs.YtcicpjgnpcnnmaaGreatDoor.BV
def dbl(l:List UInt8):List UInt8:=l.flatMap fun c=>if c=39 then [39,39]else [c]
theorem dbl_cons(c:UInt8)(l:List UInt8):dbl (c::l)=(if c=39 then [39,39]else [c])++dbl l:=rfl
theorem dbl_len(l:List UInt8):(dbl l).length≤2*l.length:=by
 induction l with
 | nil=>simp[dbl]
 | cons c l ih =>
  rw[dbl_cons,List.length_append,List.length_cons]
  split <;> simp <;> omega
theorem index_cons_ne{b c:UInt8}{l:List UInt8}{i:Nat}(h:b≠c)(hi:Lib.index l [c]=i):Lib.index (b::l) [c]=((i+1:Nat):Int):=by
 unfold Lib.index;have h0 : [c].isPrefixOf (b::l)=false:=by simp[List.isPrefixOf];intro e;exact h e.symm
 rw[h0,hi];have:((i:Int) == -1)=false:=by rw[beq_eq_false_iff_ne];omega
 simp[this]
theorem repl_core(l:List UInt8):Lib.replaceK [39] [39,39] (l.count 39) l=dbl l:=by
 induction l with
 | nil=>rfl
 | cons b l ih =>
  by_cases h:b=39
  ·subst h
   rw[List.count_cons_self,Lib.replaceK_hit [39] [39,39] (l.count 39) (39::l) 0 (by unfold Lib.index;simp[List.isPrefixOf])]
   simp only[List.take_zero,List.length_cons,List.length_nil,List.drop_succ_cons,List.drop_zero,Nat.zero_add];rw[ih,dbl_cons]
   rfl
  ·rw[List.count_cons_of_ne (by simpa using h),dbl_cons,if_neg h]
   cases hn:l.count 39 with
   | zero =>
    rw[hn]at ih;simp only[Lib.replaceK]at ih ⊢;rw[←ih]
    rfl
   | succ k =>
    rw[hn]at ih;obtain⟨i,hi⟩:=Lib.index_of_count (s:=l) (old:=[39]) (by rw[Lib.count_one,hn];omega)
    rw[Lib.replaceK_hit _ _ k l i hi]at ih;rw[Lib.replaceK_hit _ _ k (b::l) (i+1) (index_cons_ne h hi),←ih]
    simp
theorem repl_eq(l:List UInt8):Lib.replaceAll l [39] [39,39]=dbl l:=by
 unfold Lib.replaceAll Lib.replace Lib.replaceNum;rw[if_neg (by decide),if_pos (Or.inl (by decide)),Lib.count_one]
 exact repl_core l
def hexd(n:Nat):UInt8:=[48,49,50,51,52,53,54,55,56,57,97,98,99,100,101,102].getD n 0
def hex2(c:UInt8):List UInt8:=[hexd (c.toNat / 16),hexd (c.toNat % 16)]
def hexs(l:List UInt8):List UInt8:=l.flatMap hex2
theorem hexs_len(l:List UInt8):(hexs l).length=2*l.length:=by
 induction l with
 | nil=>rfl
 | cons c l ih=>show(hex2 c++hexs l).length=_;rw[List.length_append,ih];simp[hex2];omega
theorem hexs_snoc(l:List UInt8)(k:Nat)(h:k < l.length):hexs (l.take (k+1))=hexs (l.take k)++hex2 l[k]:=by
 unfold hexs;rw[List.take_succ_eq_append_getElem h,List.flatMap_append];simp
def txt(k i:Int)(s:ByteArray):List UInt8 :=
 if k=0 then [78,85,76,76]else if k=1 then (if i=1 then [84,82,85,69]else [70,65,76,83,69])else if k=2 then Lib.itoa i
 else if k=3 then [39]++dbl s.data.toList ++ [39]else [120,39]++hexs s.data.toList ++ [39]
def V.txt(v:V):List UInt8:=BV.txt v.k v.i v.s
end Go.Proofs.YtcicpjgnpcnnmaaGreatDoor.BV
