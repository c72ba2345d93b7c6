import Derived.Test.YtcicpjgnpcnnmaaGreatDoorQ08
import Derived.Test.YtcicpjgnpcnnmaaGreatDoorQ01
set_option maxRecDepth 100000
set_option maxHeartbeats 16000000
namespace Go.Proofs.YtcicpjgnpcnnmaaGreatDoor
open Go.RowKit
def eVal(o:List UInt8)(v:Vl)(t n:List UInt8)(L:Value):Value:= .agg #[.string (str o),.int .i64 v.k,.int .i64 v.i,.string (str v.s),.string (str t),.string (str n),L]
def eCells(o:List UInt8)(v:Vl)(t n:List UInt8)(L:Value):List Value:=[.string (str o),.int .i64 v.k,.int .i64 v.i,.string (str v.s),.string (str t),.string (str n),L]
def Cells7(w:World)(g o:Nat)(e:E)(A:Option Addr)(c:Nat):Prop :=
 w.cell? ⟨g,o,none⟩=some (.string (str e.op))∧w.cell? ⟨g,o+1,none⟩=some (.int .i64 e.v.k)∧w.cell? ⟨g,o+2,none⟩=some (.int .i64 e.v.i)∧w.cell? ⟨g,o+3,none⟩=some (.string (str e.v.s)) ∧
 w.cell? ⟨g,o+4,none⟩=some (.string (str e.tb))∧w.cell? ⟨g,o+5,none⟩=some (.string (str e.nm))∧w.cell? ⟨g,o+6,none⟩=some (.slice A e.l.length c)
mutual
def Sub(S:Nat→Prop)(w:World):E→Option Addr→Nat→Prop
 | .mk _ _ _ _ l,A,c=>l.length≤c∧c≤maxLen∧(0 < l.length→∃ g off,A=some ⟨g,off,none⟩∧S g∧g < w.heap.size∧LCells S w l g off)
def LCells(S:Nat→Prop)(w:World):List E→Nat→Nat→Prop
 | [],_,_=>True
 | e::r,g,off=>(∃ A c,Cells7 w g off e A c∧Sub S w e A c)∧LCells S w r g (off+7)
end
theorem Sub.eq{S:Nat→Prop}{w:World}{e:E}{A:Option Addr}{c:Nat}:Sub S w e A c↔e.l.length≤c∧c≤maxLen∧(0 < e.l.length→∃ g off,A=some ⟨g,off,none⟩∧S g∧g < w.heap.size∧LCells S w e.l g off):=by
 cases e;simp only[Sub,E.l]
theorem LCells.get{S:Nat→Prop}{w:World}{l:List E}{g off:Nat}(h:LCells S w l g off)(j:Nat)(hj:j < l.length):∃ A c,Cells7 w g (off+j*7) l[j] A c∧Sub S w l[j] A c:=by
 induction l generalizing off j with
 | nil=>simp at hj
 | cons e r ih =>
  cases j with
  | zero=>simpa using h.1
  | succ j =>
   have:=ih h.2 j (by simpa using hj)
   rw[show off+(j+1)*7=off+7+j*7 by omega]
   simpa using this
theorem LCells.of{S:Nat→Prop}{w:World}{l:List E}{g off:Nat}(h:∀ j (hj:j < l.length),∃ A c,Cells7 w g (off+j*7) l[j] A c∧Sub S w l[j] A c):LCells S w l g off:=by
 induction l generalizing off with
 | nil=>trivial
 | cons e r ih =>
  refine⟨by have h0:=h 0 (by simp);rw[Nat.zero_mul,Nat.add_zero]at h0;exact h0,ih fun j hj => ?_⟩
  have:=h (j+1) (by simpa using hj)
  rw[show off+(j+1)*7=off+7+j*7 by omega]at this
  exact this
theorem Cells7.same{w w':World}{g o:Nat}{e:E}{A:Option Addr}{c:Nat}(h:Cells7 w g o e A c)(hb:w'.heap[g]? = w.heap[g]?):Cells7 w' g o e A c:=by
 have hc:∀ o,w'.cell? ⟨g,o,none⟩=w.cell? ⟨g,o,none⟩:=fun o=>World.cell?_of_block (w:=w) (a:=⟨g,o,none⟩) hb
 unfold Cells7 at *;simp only[hc];exact h
theorem Sub.keep{S S':Nat→Prop}{w w':World}(hS:∀ k,S k→k < w.heap.size→S' k∧w'.heap[k]? = w.heap[k]?)(hz:w.heap.size≤w'.heap.size)(e:E):∀ A c,Sub S w e A c→Sub S' w' e A c:=by
 induction e using E.ind with
 | h o v t n l ih =>
  intro A c h;refine⟨h.1,h.2.1,fun h0 => ?_⟩
  obtain⟨g,off,rfl,hg,hlt,hl⟩:=h.2.2 h0;obtain⟨h1,h2⟩:=hS g hg hlt;refine⟨g,off,rfl,h1,Nat.lt_of_lt_of_le hlt hz,LCells.of fun j hj => ?_⟩
  obtain⟨A',c',h3,h4⟩:=hl.get j hj;exact⟨A',c',h3.same h2,ih _ (List.getElem_mem hj) _ _ h4⟩
def EAt(S:Nat→Prop)(w:World)(e:E)(x:Value):Prop:=∃ A c,x=eVal e.op e.v e.tb e.nm (.slice A e.l.length c)∧Sub S w e A c
theorem EAt.keep{S S':Nat→Prop}{w w':World}{e:E}{x:Value}(h:EAt S w e x)(hS:∀ k,S k→k < w.heap.size→S' k∧w'.heap[k]? = w.heap[k]?)(hz:w.heap.size≤w'.heap.size):EAt S' w' e x:=by
 obtain⟨A,c,rfl,h⟩:=h;exact⟨A,c,rfl,h.keep hS hz⟩
theorem EAt.later{S:Nat→Prop}{w w':World}{e:E}{x:Value}(h:EAt S w e x)(hb:Below w.heap.size w w'):EAt S w' e x:=h.keep (fun k hk hlt=>⟨hk,hb.block k hlt⟩) hb.size
theorem EAt.wide{S S':Nat→Prop}{w:World}{e:E}{x:Value}(h:EAt S w e x)(hS:∀ k,S k→S' k):EAt S' w e x:=h.keep (fun k hk _=>⟨hS k hk,rfl⟩) (Nat.le_refl _)
mutual
def E.deep:E→Nat
 | .mk _ _ _ _ l=>E.deepL l+1
def E.deepL:List E→Nat
 | []=>0
 | e::r=>max e.deep (E.deepL r)
end
theorem deepL_append(l m:List E):E.deepL (l++m)=max (E.deepL l) (E.deepL m):=by
 induction l with
 | nil=>simp[E.deepL]
 | cons e r ih=>simp only[List.cons_append,E.deepL,ih];omega
theorem deepL_take(l:List E)(k:Nat)(hk:k < l.length):E.deepL (l.take (k+1))=max (E.deepL (l.take k)) l[k].deep:=by
 rw[List.take_succ_eq_append_getElem hk,deepL_append]
 simp[E.deepL]
theorem deepL_le(l:List E)(k:Nat)(hk:k < l.length):l[k].deep≤E.deepL l:=by
 induction l generalizing k with
 | nil=>simp at hk
 | cons e r ih =>
  cases k with
  | zero=>simp only[List.getElem_cons_zero,E.deepL];omega
  | succ k =>
   have:=ih k (by simpa using hk)
   simp only[List.getElem_cons_succ,E.deepL];omega
def B7(w:World)(b:Nat)(c0 c1 c2 c3 c4 c5 c6:Value):Prop:=w.heap[b]? = some (.cells #[c0,c1,c2,c3,c4,c5,c6] 29 (0,0))
theorem B7.lt{w:World}{b:Nat}{c0 c1 c2 c3 c4 c5 c6:Value}(h:B7 w b c0 c1 c2 c3 c4 c5 c6):b < w.heap.size:=(Array.getElem?_eq_some_iff.1 h).1
theorem B7.cells{w:World}{b:Nat}{c0 c1 c2 c3 c4 c5 c6:Value}(h:B7 w b c0 c1 c2 c3 c4 c5 c6):w.cell? ⟨b,0,none⟩=some c0∧w.cell? ⟨b,1,none⟩=some c1∧w.cell? ⟨b,2,none⟩=some c2∧w.cell? ⟨b,3,none⟩=some c3∧w.cell? ⟨b,4,none⟩=some c4∧w.cell? ⟨b,5,none⟩=some c5∧w.cell? ⟨b,6,none⟩=some c6 :=
 ⟨by rw[Lib.cell_of_heap h];rfl,by rw[Lib.cell_of_heap h];rfl,by rw[Lib.cell_of_heap h];rfl,by rw[Lib.cell_of_heap h];rfl,by rw[Lib.cell_of_heap h];rfl,by rw[Lib.cell_of_heap h];rfl,by rw[Lib.cell_of_heap h];rfl⟩
theorem B7.free{w:World}{b:Nat}{c0 c1 c2 c3 c4 c5 c6:Value}(h:B7 w b c0 c1 c2 c3 c4 c5 c6):w.frozen? ⟨b,0,none⟩=false∧w.frozen? ⟨b,1,none⟩=false∧w.frozen? ⟨b,2,none⟩=false∧w.frozen? ⟨b,3,none⟩=false∧w.frozen? ⟨b,4,none⟩=false∧w.frozen? ⟨b,5,none⟩=false∧w.frozen? ⟨b,6,none⟩=false :=
 ⟨Lib.frozen_of_heap h 0,Lib.frozen_of_heap h 1,Lib.frozen_of_heap h 2,Lib.frozen_of_heap h 3,Lib.frozen_of_heap h 4,Lib.frozen_of_heap h 5,Lib.frozen_of_heap h 6⟩
theorem B7.same{w w':World}{b:Nat}{c0 c1 c2 c3 c4 c5 c6:Value}(h:B7 w b c0 c1 c2 c3 c4 c5 c6)(hb:w'.heap[b]? = w.heap[b]?):B7 w' b c0 c1 c2 c3 c4 c5 c6:=hb.trans h
theorem B7.later{w w':World}{b:Nat}{c0 c1 c2 c3 c4 c5 c6:Value}(h:B7 w b c0 c1 c2 c3 c4 c5 c6)(hb:Below w.heap.size w w'):B7 w' b c0 c1 c2 c3 c4 c5 c6:=h.same (hb.block b h.lt)
theorem B7.made(w:World)(c0 c1 c2 c3 c4 c5 c6:Value):B7 (w.alloc (.cells #[c0,c1,c2,c3,c4,c5,c6] 29)) w.heap.size c0 c1 c2 c3 c4 c5 c6:=heap_alloc_new w _
theorem heap_set_same{w:World}{b o:Nat}{cs:Array Value}{t:TypeId}{f:Nat×Nat}(u:Value)(h:w.heap[b]? = some (.cells cs t f)):(w.setCell ⟨b,o,none⟩ u).heap[b]? = some (.cells (cs.setIfInBounds o u) t f):=by
 simp only[World.setCell,Array.getElem?_modify,h]
 rfl
theorem size_setCell(w:World)(a:Addr)(u:Value):(w.setCell a u).heap.size=w.heap.size:=by simp[World.setCell]
theorem stored7{w:World}{b:Nat}{x0 x1 x2 x3 x4 x5 x6:Value}(h:B7 w b x0 x1 x2 x3 x4 x5 x6)(c0 c1 c2 c3 c4 c5 c6:Value) :
  ∃ W:World,W=(((((((w.setCell ⟨b,0,none⟩ c0).setCell ⟨b,1,none⟩ c1).setCell ⟨b,2,none⟩ c2).setCell ⟨b,3,none⟩ c3).setCell ⟨b,4,none⟩ c4).setCell ⟨b,5,none⟩ c5).setCell ⟨b,6,none⟩ c6) ∧
   B7 W b c0 c1 c2 c3 c4 c5 c6∧W.heap.size=w.heap.size∧(∀ k,k≠b→W.heap[k]? = w.heap[k]?)∧∀ B,B≤b→Below B w W:=by
 refine⟨_,rfl,?_,?_,fun k hk => ?_,fun B hB => ?_⟩
 ·unfold B7
  have h0:=heap_set_same c0 (o:=0) h;have h1:=heap_set_same c1 (o:=1) h0;have h2:=heap_set_same c2 (o:=2) h1;have h3:=heap_set_same c3 (o:=3) h2;have h4:=heap_set_same c4 (o:=4) h3;have h5:=heap_set_same c5 (o:=5) h4;have h6:=heap_set_same c6 (o:=6) h5
  simpa only[List.setIfInBounds_toArray,List.set_cons_zero,List.set_cons_succ]using h6
 ·simp only[size_setCell]
 ·rw[Below.heap_setCell _ _ _ _ hk,Below.heap_setCell _ _ _ _ hk,Below.heap_setCell _ _ _ _ hk,Below.heap_setCell _ _ _ _ hk,Below.heap_setCell _ _ _ _ hk,Below.heap_setCell _ _ _ _ hk,Below.heap_setCell _ _ _ _ hk]
 ·exact(((((((Below.refl B w).setCell (p:=⟨b,0,none⟩) hB _).setCell (p:=⟨b,1,none⟩) hB _).setCell (p:=⟨b,2,none⟩) hB _).setCell (p:=⟨b,3,none⟩) hB _).setCell (p:=⟨b,4,none⟩) hB _).setCell (p:=⟨b,5,none⟩) hB _).setCell (p:=⟨b,6,none⟩) hB _
theorem made7(w:World)(c0 c1 c2 c3 c4 c5 c6:Value) :
  ∃ W1 W:World,W1=w.alloc (.cells #[.string ⟨#[]⟩,.int .i64 0,.int .i64 0,.string ⟨#[]⟩,.string ⟨#[]⟩,.string ⟨#[]⟩,.slice none 0 0] 29) ∧
   W=(((((((W1.setCell ⟨w.heap.size,0,none⟩ c0).setCell ⟨w.heap.size,1,none⟩ c1).setCell ⟨w.heap.size,2,none⟩ c2).setCell ⟨w.heap.size,3,none⟩ c3).setCell ⟨w.heap.size,4,none⟩ c4).setCell ⟨w.heap.size,5,none⟩ c5).setCell ⟨w.heap.size,6,none⟩ c6) ∧
   B7 W1 w.heap.size (.string ⟨#[]⟩) (.int .i64 0) (.int .i64 0) (.string ⟨#[]⟩) (.string ⟨#[]⟩) (.string ⟨#[]⟩) (.slice none 0 0)∧B7 W w.heap.size c0 c1 c2 c3 c4 c5 c6∧W.heap.size=w.heap.size+1∧Below w.heap.size w W1∧Below w.heap.size w W:=by
 have h1:=B7.made w (.string ⟨#[]⟩) (.int .i64 0) (.int .i64 0) (.string ⟨#[]⟩) (.string ⟨#[]⟩) (.string ⟨#[]⟩) (.slice none 0 0);have hb:=(Below.refl w.heap.size w).alloc (Nat.le_refl _) (.cells #[.string ⟨#[]⟩,.int .i64 0,.int .i64 0,.string ⟨#[]⟩,.string ⟨#[]⟩,.string ⟨#[]⟩,.slice none 0 0] 29);obtain⟨W,h2,h3,h4,h5,h6⟩:=stored7 h1 c0 c1 c2 c3 c4 c5 c6;exact⟨_,W,rfl,h2,h1,h3,by rw[h4];simp,hb,hb.trans (h6 _ (Nat.le_refl _))⟩
theorem box7(w:World)(c0 c1 c2 c3 c4 c5 c6:Value):∃ W:World,W=w.alloc (.cells #[c0,c1,c2,c3,c4,c5,c6] 29)∧B7 W w.heap.size c0 c1 c2 c3 c4 c5 c6∧W.heap.size=w.heap.size+1∧Below w.heap.size w W :=
 ⟨_,rfl,B7.made w _ _ _ _ _ _ _,by simp,(Below.refl w.heap.size w).alloc (Nat.le_refl _) _⟩
theorem zero7(w:World):∃ W:World,W=w.alloc (.cells #[.string ⟨#[]⟩,.int .i64 0,.int .i64 0,.string ⟨#[]⟩,.string ⟨#[]⟩,.string ⟨#[]⟩,.slice none 0 0] 29) ∧
  B7 W w.heap.size (.string ⟨#[]⟩) (.int .i64 0) (.int .i64 0) (.string ⟨#[]⟩) (.string ⟨#[]⟩) (.string ⟨#[]⟩) (.slice none 0 0)∧W.heap.size=w.heap.size+1∧Below w.heap.size w W:=box7 w _ _ _ _ _ _ _
theorem EAt.agg{S:Nat→Prop}{w:World}{e:E}{x:Value}(h:EAt S w e x):∃ s0 i1 i2 s3 s4 s5 A n c,x = .agg #[.string s0,.int .i64 i1,.int .i64 i2,.string s3,.string s4,.string s5,.slice A n c]:=by
 obtain⟨A,c,rfl,-⟩:=h;exact⟨_,_,_,_,_,_,_,_,_,rfl⟩
mutual
def E.same:E→E→Bool
 | .mk o v t n l,.mk o' v' t' n' l'=>o == o' && (v == v') && (t == t') && (n == n') && E.sameL l l'
def E.sameL:List E→List E→Bool
 | [],[]=>true
 | a::l,b::m=>a.same b && E.sameL l m
 | _,_=>false
end
theorem sameL_len{l m:List E}(h:l.length≠m.length):E.sameL l m=false:=by
 induction l generalizing m with
 | nil =>
  cases m with
  | nil=>simp at h
  | cons b m=>rfl
 | cons a l ih =>
  cases m with
  | nil=>rfl
  | cons b m=>simp only[E.sameL];rw[ih (by simpa using h)];simp
theorem same_eq{e f:E}(h:e.same f=true):e=f:=by
 induction e using E.ind generalizing f with
 | h o v t n l ih =>
  cases f with
  | mk o' v' t' n' l' =>
   simp only[E.same,Bool.and_eq_true,beq_iff_eq]at h;obtain⟨⟨⟨⟨rfl,rfl⟩,rfl⟩,rfl⟩,hl⟩:=h
   have:∀ (m m':List E),(∀ a∈m,∀ {f:E},a.same f=true→a=f)→E.sameL m m'=true→m=m':=by
    intro m
    induction m with
    | nil =>
     intro m' _ h;cases m' with
     | nil=>rfl
     | cons b m'=>simp[E.sameL]at h
    | cons a m ihm =>
     intro m' ha h;cases m' with
     | nil=>simp[E.sameL]at h
     | cons b m' =>
      simp only[E.sameL,Bool.and_eq_true]at h;rw[ha a (by simp) h.1,ihm m' (fun c hc=>ha c (by simp[hc])) h.2]
   rw[this l l' (fun a ha f=>ih a ha) hl]
theorem str_beq(a b:List UInt8):((str a).toList == (str b).toList)=(a == b):=by rw[Lib.toList_data,Lib.toList_data,str_list,str_list]
theorem sameB_v(v v':Vl):BV.sameB v.k v.i (str v.s) v'.k v'.i (str v'.s)=(v == v'):=by
 unfold BV.sameB;rw[str_beq];cases v;cases v';rw[Bool.eq_iff_iff]
 simp
theorem sub_later{S:Nat→Prop}{w w':World}{e:E}{A:Option Addr}{c:Nat}(h:Sub S w e A c)(hb:Below w.heap.size w w'):Sub S w' e A c:=Sub.keep (fun k hk hlt=>⟨hk,hb.block k hlt⟩) hb.size e A c h
def ops1:List (List UInt8):=[wNeg,wNot,wIsnull,wNotnull]
def ops2:List (List UInt8):=[wAnd,wOr,[61],[60,62],[60],[60,61],[62],[62,61],[43],[45],[42],[47],[37],[124,124],wLike]
def least(o:List UInt8):Nat:=if o∈ops1 then 1 else if o∈ops2 then 2 else if o=wBetween then 3 else if o=wIn then 2 else 1
def most(o:List UInt8):Nat:=if o∈ops1 then 1 else if o∈ops2 then 2 else if o=wBetween then 3 else if o=wIn then 9223372036854775807 else 0
def allOps:List (List UInt8):=ops1++ops2 ++ [wBetween,wIn]
theorem many_none{o:List UInt8}(h:o∉allOps):least o=1∧most o=0:=by
 have h1:o∉ops1:=fun hh=>h (by unfold allOps;simp[hh])
 have h2:o∉ops2:=fun hh=>h (by unfold allOps;simp[hh])
 have h3:o≠wBetween:=fun hh=>h (by unfold allOps;simp[hh])
 have h4:o≠wIn:=fun hh=>h (by unfold allOps;simp[hh])
 unfold least most
 simp[h1,h2,h3,h4]
def Vl.may(v:Vl):Bool:=BV.mayB v.k v.i (str v.s)
def oneStar:List E→Bool
 | [x]=>x.same star
 | _=>false
def countsL(n:List UInt8)(l:List E):Bool:=n == wCount && oneStar l
mutual
def E.may:E→Bool
 | .mk o v t n l =>
  if o=wLit then (t == [] && (n == []) && l.isEmpty) && v.may
  else if o=wCol then (v == v0 && l.isEmpty) && nameB n && (t == [] || nameB t)
  else if o=wCall then (v == v0 && (t == [])) && nameB n && (countsL n l || E.mayL l)
  else (v == v0 && (t == []) && (n == [])) && decide (least o≤l.length) && decide (l.length≤most o) && E.mayL l
def E.mayL:List E→Bool
 | []=>true
 | a::l=>a.may && E.mayL l
end
mutual
def E.sn:E→Bool
 | .mk o _ t n l=>decide (o=wCol→t.length≤1000000) && decide (n.length≤1000000) && E.snL l
def E.snL:List E→Bool
 | []=>true
 | a::l=>a.sn && E.snL l
end
theorem snL_iff{l:List E}:E.snL l=true↔∀ x∈l,x.sn=true:=by
 induction l with
 | nil=>simp[E.snL]
 | cons a l ih=>simp[E.snL,ih]
theorem snL_get{l:List E}(h:E.snL l=true)(j:Nat)(hj:j < l.length):l[j].sn=true:=snL_iff.1 h _ (List.getElem_mem hj)
def chkE(e:E):Int:=if e.may then (if 40 < e.deep then 3 else 0)else 1
theorem rOp1(so:ByteArray)(A:Option Addr)(n c:Nat)(w:World):Calls Tryz.prog 24 #[.string so,.slice A n c] w fun r w'=>r = .returned (.agg #[.string so,.int .i64 0,.int .i64 0,.string ⟨#[]⟩,.string ⟨#[]⟩,.string ⟨#[]⟩,.slice A n c])∧Below w.heap.size w w':=by
 obtain⟨W1,W,hW1,hW,p1,p2,hz,hb1,hb2⟩:=made7 w (.string so) (.int .i64 0) (.int .i64 0) (.string ⟨#[]⟩) (.string ⟨#[]⟩) (.string ⟨#[]⟩) (.slice A n c);obtain⟨a0,a1,a2,a3,a4,a5,a6⟩:=p1.cells;obtain⟨f0,f1,f2,f3,f4,f5,f6⟩:=p1.free;obtain⟨l0,l1,l2,l3,l4,l5,l6⟩:=p2.cells;have HW1:=Hi hW1;have HW:=Hi hW;have HB:=Hi hb2;clear hW1 hW p1 p2 hb1 hb2;go_enter Tryz.func24,Tryz.ntmps24
 go_wp2_with (first | (rw[←HW.out]) | (rw[←HW1.out]))
 exact bodyPost_ret (v:= .agg #[.string so,.int .i64 0,.int .i64 0,.string ⟨#[]⟩,.string ⟨#[]⟩,.string ⟨#[]⟩,.slice A n c]) (by simp[results,Tryz.results24,go_sem,l0,l1,l2,l3,l4,l5,l6]) rfl ⟨rfl,HB.out⟩
theorem rCol(t n:ByteArray)(w:World):Calls Tryz.prog 80 #[.string t,.string n] w fun r w'=>r = .returned (.agg #[.string ⟨#[99,111,108]⟩,.int .i64 0,.int .i64 0,.string ⟨#[]⟩,.string t,.string n,.slice none 0 0])∧Below w.heap.size w w':=by
 obtain⟨W1,W,hW1,hW,p1,p2,hz,hb1,hb2⟩:=made7 w (.string ⟨#[99,111,108]⟩) (.int .i64 0) (.int .i64 0) (.string ⟨#[]⟩) (.string t) (.string n) (.slice none 0 0);obtain⟨a0,a1,a2,a3,a4,a5,a6⟩:=p1.cells;obtain⟨f0,f1,f2,f3,f4,f5,f6⟩:=p1.free;obtain⟨l0,l1,l2,l3,l4,l5,l6⟩:=p2.cells;have HW1:=Hi hW1;have HW:=Hi hW;have HB:=Hi hb2;clear hW1 hW p1 p2 hb1 hb2;go_enter Tryz.func80,Tryz.ntmps80
 go_wp2_with (first | (rw[←HW.out]) | (rw[←HW1.out]))
 exact bodyPost_ret (v:= .agg #[.string ⟨#[99,111,108]⟩,.int .i64 0,.int .i64 0,.string ⟨#[]⟩,.string t,.string n,.slice none 0 0]) (by simp[results,Tryz.results80,go_sem,l0,l1,l2,l3,l4,l5,l6]) rfl ⟨rfl,HB.out⟩
theorem heap3(w:World)(c0 c1 c2:Value):(w.alloc (.cells #[c0,c1,c2] 26)).heap[w.heap.size]? = some (.cells #[c0,c1,c2] 26 (0,0)):=heap_alloc_new w _
theorem rInt1(i:Int)(w:World):Calls Tryz.prog 27 #[.int .i64 i] w fun r w'=>r = .returned (.agg #[.int .i64 2,.int .i64 i,.string ⟨#[]⟩])∧Below w.heap.size w w':=by
 obtain⟨W0,hW0⟩:∃ W0,W0=w.alloc (.cells #[.int .i64 0,.int .i64 0,.string ⟨#[]⟩] 26):=⟨_,rfl⟩;have h0:W0.heap[w.heap.size]? = some (.cells #[.int .i64 0,.int .i64 0,.string ⟨#[]⟩] 26 (0,0)):=by rw[hW0];exact heap3 w _ _ _
 have r0:Below w.heap.size w W0:=by rw[hW0];exact(Below.refl w.heap.size w).alloc (Nat.le_refl _) _
 have s0:=heap_set_same (.int .i64 2) (o:=0) h0;have s1:=heap_set_same (.int .i64 i) (o:=1) s0;have s2:=heap_set_same (.string ⟨#[]⟩) (o:=2) s1;obtain⟨W,hW⟩:∃ W,W=(((W0.setCell ⟨w.heap.size,0,none⟩ (.int .i64 2)).setCell ⟨w.heap.size,1,none⟩ (.int .i64 i)).setCell ⟨w.heap.size,2,none⟩ (.string ⟨#[]⟩)):=⟨_,rfl⟩;rw[←hW]at s2
 have hb:Below w.heap.size w W:=by
  rw[hW];exact((r0.setCell (p:=⟨w.heap.size,0,none⟩) (Nat.le_refl _) _).setCell (p:=⟨w.heap.size,1,none⟩) (Nat.le_refl _) _).setCell (p:=⟨w.heap.size,2,none⟩) (Nat.le_refl _) _
 simp only[List.setIfInBounds_toArray,List.set_cons_zero,List.set_cons_succ]at s2;have a0:W0.cell? ⟨w.heap.size,0,none⟩=some (.int .i64 0):=by rw[Lib.cell_of_heap h0];rfl
 have a1:W0.cell? ⟨w.heap.size,1,none⟩=some (.int .i64 0):=by rw[Lib.cell_of_heap h0];rfl
 have a2:W0.cell? ⟨w.heap.size,2,none⟩=some (.string ⟨#[]⟩):=by rw[Lib.cell_of_heap h0];rfl
 have f0:=Lib.frozen_of_heap h0 0;have f1:=Lib.frozen_of_heap h0 1;have f2:=Lib.frozen_of_heap h0 2;have l0:W.cell? ⟨w.heap.size,0,none⟩=some (.int .i64 2):=by rw[Lib.cell_of_heap s2];rfl
 have l1:W.cell? ⟨w.heap.size,1,none⟩=some (.int .i64 i):=by rw[Lib.cell_of_heap s2];rfl
 have l2:W.cell? ⟨w.heap.size,2,none⟩=some (.string ⟨#[]⟩):=by rw[Lib.cell_of_heap s2];rfl
 have HW0:=Hi hW0;have HW:=Hi hW;have HB:=Hi hb;clear hW0 hW hb h0 r0 s0 s1 s2;go_enter Tryz.func27,Tryz.ntmps27
 go_wp2_with (first | (rw[←HW.out]) | (rw[←HW0.out]))
 exact bodyPost_ret (v:= .agg #[.int .i64 2,.int .i64 i,.string ⟨#[]⟩]) (by simp[results,Tryz.results27,go_sem,l0,l1,l2]) rfl ⟨rfl,HB.out⟩
theorem str_bne(a b:List UInt8):((str a).toList != (str b).toList) = !(a == b):=by rw[bne,str_beq]
theorem rSame_any(e:E):∀ (f:E)(x y:Value)(S S':Nat→Prop)(w:World),EAt S w e x→EAt S' w f y→Calls Tryz.prog 136 #[x,y] w fun r w'=>r = .returned (.bool (e.same f))∧Below w.heap.size w w':=by
 induction e using E.ind with
 | h o v t n l ih =>
  rintro⟨o',v',t',n',l'⟩ x y S S' w ⟨A,c,rfl,hs⟩ ⟨A',c',rfl,hs'⟩;simp only[E.op,E.v,E.tb,E.nm,E.l,eVal];obtain⟨W1,hW1,q1,z1,r1⟩:=box7 w (.string (str o)) (.int .i64 v.k) (.int .i64 v.i) (.string (str v.s)) (.string (str t)) (.string (str n)) (.slice A l.length c);obtain⟨W2,hW2,q2,z2,r2⟩:=box7 W1 (.string (str o')) (.int .i64 v'.k) (.int .i64 v'.i) (.string (str v'.s)) (.string (str t')) (.string (str n')) (.slice A' l'.length c');rw[z1]at q2;have HQ1:=Hi (q1.later r2);have HQ2:=Hi q2;obtain⟨a0,a1,a2,a3,a4,a5,a6⟩:=(q1.later r2).cells;obtain⟨b0,b1,b2,b3,b4,b5,b6⟩:=q2.cells;have HB:=Hi (bthen r1 r2);have e1:=str_bne o o';have e3:=str_bne t t';have e4:=str_bne n n';have e1':=str_beq o o';have e3':=str_beq t t';have e4':=str_beq n n';have HV:=Hi (fun w=>BV.rsame_any v.k v.i v'.k v'.i (str v.s) (str v'.s) w)
  rw[sameB_v]at HV;have hs1:=sub_later (sub_later hs r1) r2;have hs2:=sub_later (sub_later hs' r1) r2;simp only[Sub]at hs1 hs2;have hlm:l.length≤9223372036854775807:=Nat.le_trans hs1.1 hs1.2.1;have hmm:l'.length≤9223372036854775807:=Nat.le_trans hs2.1 hs2.2.1;have HL:=Hi hs1.2.2;have HM:=Hi hs2.2.2;have HI:=Hi (fun(j:Nat) (hj:j < l.length) (f:E) (x y:Value) (W:World) (hx:EAt S W l[j] x) (hy:EAt S' W f y)=>ih l[j] (List.getElem_mem hj) f x y S S' W hx hy)
  have hes:E.same (.mk o v t n l) (.mk o' v' t' n' l')=(o == o' && (v == v') && (t == t') && (n == n') && E.sameL l l'):=by simp only[E.same]
  rw[hes];have HW1:=Hi hW1;have HW2:=Hi hW2;have HZ2:=Hi (show W2.heap.size=w.heap.size+2 by omega)
  generalize hq1:(o == o')=p1 at *;generalize hq2:(v == v')=p2 at *;generalize hq3:(t == t')=p3 at *;generalize hq4:(n == n')=p4 at *;clear hq1 hq2 hq3 hq4 hes ih hs hs' hs1 hs2 hW1 hW2 q1 q2 r1 r2;generalize str o=bo at *;generalize str o'=bo' at *;generalize str t=bt at *;generalize str t'=bt' at *;generalize str n=bn at *;generalize str n'=bn' at *;generalize str v.s=bs at *;generalize str v'.s=bs' at *;generalize v.k=vk at *;generalize v.i=vi at *;generalize v'.k=vk' at *;generalize v'.i=vi' at *;cases p1
  ·clear HV HL HM HI
   simp only[Bool.false_and,Bool.not_false]at *;generalize l.length=ln at *;generalize l'.length=ln' at *;go_enter Tryz.func136,Tryz.ntmps136
   go_wp2_with (first | (rw[←HW2.out]) | (rw[←HW1.out]))
   go_ret
   exact⟨rfl,HB.out⟩
  ·simp only[Bool.true_and,Bool.not_true]at *
   cases p2
   ·simp only[Bool.false_and]
    clear HL HM HI;generalize l.length=ln at *;generalize l'.length=ln' at *;go_enter Tryz.func136,Tryz.ntmps136
    go_wp2_with (first | (rw[←HW2.out]) | (rw[←HW1.out]))
    refine(HV.out _).mono ?_;rintro e w3 ⟨rfl,b3⟩;go_wp2_with fail
    go_ret
    exact⟨rfl,bthen HB.out b3⟩
   ·simp only[Bool.true_and]
    cases p3
    ·simp only[Bool.false_and,Bool.not_false]at *
     clear HL HM HI;generalize l.length=ln at *;generalize l'.length=ln' at *;go_enter Tryz.func136,Tryz.ntmps136
     go_wp2_with (first | (rw[←HW2.out]) | (rw[←HW1.out]))
     refine(HV.out _).mono ?_;rintro e w3 ⟨rfl,b3'⟩;obtain⟨c0,c1,c2,c3,c4,c5,c6⟩:=(HQ1.out.later b3').cells;obtain⟨d0,d1,d2,d3,d4,d5,d6⟩:=(HQ2.out.later b3').cells;have HB3:=Hi (bthen HB.out b3');clear b3';go_wp2_with fail
     go_ret
     exact⟨rfl,HB3.out⟩
    ·simp only[Bool.true_and,Bool.not_true]at *
     cases p4
     ·simp only[Bool.false_and,Bool.not_false]at *
      clear HL HM HI;generalize l.length=ln at *;generalize l'.length=ln' at *;go_enter Tryz.func136,Tryz.ntmps136
      go_wp2_with (first | (rw[←HW2.out]) | (rw[←HW1.out]))
      refine(HV.out _).mono ?_;rintro e w3 ⟨rfl,b3'⟩;obtain⟨c0,c1,c2,c3,c4,c5,c6⟩:=(HQ1.out.later b3').cells;obtain⟨d0,d1,d2,d3,d4,d5,d6⟩:=(HQ2.out.later b3').cells;have HB3:=Hi (bthen HB.out b3');clear b3';go_wp2_with fail
      go_ret
      exact⟨rfl,HB3.out⟩
     ·simp only[Bool.true_and,Bool.not_true]at *
      by_cases hne:l.length=l'.length
      ·have hnz:((l.length:Int) != (l'.length:Int))=false:=by simp[hne]
       obtain⟨ln,hln⟩:∃ ln,ln=l.length:=⟨_,rfl⟩;obtain⟨mn,hmn⟩:∃ mn,mn=l'.length:=⟨_,rfl⟩;rw[←hln]at hnz hlm a6 HQ1 HW1 ⊢;rw[←hmn]at hnz hmm b6 HQ2 HW2 ⊢;have HLN:=Hi hln;have HMN:=Hi hmn;have HNE:=Hi hne;clear hln hmn hne;generalize hsl0:E.sameL l l'=sl;have HS0:=Hi hsl0;clear hsl0;go_enter Tryz.func136,Tryz.ntmps136
       go_wp2_with (first | (rw[←HW2.out]) | (rw[←HW1.out]))
       refine(HV.out _).mono ?_;rintro e w3 ⟨rfl,b3'⟩;obtain⟨c0,c1,c2,c3,c4,c5,c6⟩:=(HQ1.out.later b3').cells;obtain⟨d0,d1,d2,d3,d4,d5,d6⟩:=(HQ2.out.later b3').cells;have HB3:=Hi b3';clear b3' HV;go_wp2_with fail
       go_loopw [45] (fun iv wr=>∃ k:Nat,k≤ln∧iv = .int .i64 k∧Hid (Below W2.heap.size W2 wr)∧Hid (sl=E.sameL (l.drop k) (l'.drop k))) (fun iv _=>ln - (intOf iv).toNat)
       case atStart=>exact⟨0,Nat.zero_le _,rfl,HB3.out,by rw[List.drop_zero,List.drop_zero];exact HS0.out.symm⟩
       case round =>
        obtain⟨k,hk,rfl,HBr,HS⟩:=hrel
        by_cases hlt:k < ln
        ·have hkl:k < l.length:=by have:=HLN.out;omega
         have hkm:k < l'.length:=by have:=HNE.out;have:=HLN.out;omega
         obtain⟨g,off,rfl,hS,hg,hcl⟩:=HL.out (by omega)
         obtain⟨g',off',rfl,hS',hg',hcm⟩:=HM.out (by omega)
         obtain⟨A1,c1',h1,hs3⟩:=hcl.get k hkl;obtain⟨A2,c2',h2,hs4⟩:=hcm.get k hkm;obtain⟨i0,i1,i2,i3,i4,i5,i6⟩:=h1.same (HBr.out.block g hg);obtain⟨j0,j1,j2,j3,j4,j5,j6⟩:=h2.same (HBr.out.block g' hg');obtain⟨x0,x1,x2,x3,x4,x5,x6⟩:=(HQ1.out.later HBr.out).cells;obtain⟨y0,y1,y2,y3,y4,y5,y6⟩:=(HQ2.out.later HBr.out).cells;have hkz:(k:Int) < (ln:Int):=by omega
         have hkz2:(k:Int) < (mn:Int):=by have:=HMN.out;omega
         have hE:EAt S W2 l[k] (eVal l[k].op l[k].v l[k].tb l[k].nm (.slice A1 l[k].l.length c1')):=⟨A1,c1',rfl,hs3⟩;have hF:EAt S' W2 l'[k] (eVal l'[k].op l'[k].v l'[k].tb l'[k].nm (.slice A2 l'[k].l.length c2')):=⟨A2,c2',rfl,hs4⟩;have hbd:Below W2.heap.size W2 wr.drew:=HBr.out.drew;have HC:=Hi (HI.out k hkl l'[k] _ _ wr.drew (hE.later hbd) (hF.later hbd));have HBV:=Hi hbd
         have hsl:E.sameL (l.drop k) (l'.drop k)=(l[k].same l'[k] && E.sameL (l.drop (k+1)) (l'.drop (k+1))):=by
          rw[List.drop_eq_getElem_cons hkl,List.drop_eq_getElem_cons hkm];rfl
         have HSL:=Hi (HS.out.trans hsl);unfold eVal at HC;generalize hsm:l[k].same l'[k]=sm at *;generalize str l[k].op=co at *;generalize str l[k].tb=ct at *;generalize str l[k].nm=cn at *;generalize str l[k].v.s=cs at *;generalize l[k].v.k=ck at *;generalize l[k].v.i=ci at *;generalize l[k].l.length=cl at *;generalize str l'[k].op=co' at *;generalize str l'[k].tb=ct' at *;generalize str l'[k].nm=cn' at *;generalize str l'[k].v.s=cs' at *;generalize l'[k].v.k=ck' at *;generalize l'[k].v.i=ci' at *;generalize l'[k].l.length=cl' at *;clear hs3 hs4 hcl hcm hE hF h1 h2 HBr HI HL HM hbd hsl hsm HS;cases sm
         ·have hsf:=HSL.out
          simp only[Bool.false_and]at hsf;subst hsf;clear HSL HS0;go_wp2_with fail
          go_still_tail 10,(by kernel_rfl)
          change wpList _ _ _ _ _ wr.drew
          go_wp2_with (go_at_call 136;refine(HC.out).mono ?_;rintro e w4 ⟨rfl,b4'⟩)
          go_ret
          exact⟨rfl,bthen HB.out (bthen HBV.out b4')⟩
         ·have HSL2:Hid (sl=E.sameL (l.drop (k+1)) (l'.drop (k+1))):=by have:=HSL.out;rwa [Bool.true_and]at this
          go_wp2_with fail
          go_still_tail 10,(by kernel_rfl)
          change wpList _ _ _ _ _ wr.drew
          go_wp2_with (go_at_call 136;refine(HC.out).mono ?_;rintro e w4 ⟨rfl,b4'⟩)
          go_roundw
          case measure=>simp[intOf];omega
          case rel=>exact⟨k+1,by omega,by go_num,bthen HBV.out b4',HSL2.out⟩
        ·have hke:k=ln:=by omega
         have hkz:¬(k:Int) < (ln:Int):=by omega
         subst hke;have hs:=HS.out;rw[List.drop_of_length_le (by have:=HLN.out;omega),List.drop_of_length_le (by have:=HLN.out;have:=HNE.out;omega)]at hs
         have hst:sl=true:=hs;clear hs;subst hst;clear HM HI HL HS HS0;go_wp2_with fail
         go_ret
         exact⟨rfl,bthen HB.out HBr.out⟩
      ·have hnz:((l.length:Int) != (l'.length:Int))=true:=by simp;omega
       rw[sameL_len hne];clear HL HM HI hne;generalize l.length=ln at *;generalize l'.length=ln' at *;go_enter Tryz.func136,Tryz.ntmps136
       go_wp2_with (first | (rw[←HW2.out]) | (rw[←HW1.out]))
       refine(HV.out _).mono ?_;rintro e w3 ⟨rfl,b3'⟩;obtain⟨c0,c1,c2,c3,c4,c5,c6⟩:=(HQ1.out.later b3').cells;obtain⟨d0,d1,d2,d3,d4,d5,d6⟩:=(HQ2.out.later b3').cells;have HB3:=Hi (bthen HB.out b3');clear b3';go_wp2_with fail
       go_ret
       exact⟨rfl,HB3.out⟩
end Go.Proofs.YtcicpjgnpcnnmaaGreatDoor
