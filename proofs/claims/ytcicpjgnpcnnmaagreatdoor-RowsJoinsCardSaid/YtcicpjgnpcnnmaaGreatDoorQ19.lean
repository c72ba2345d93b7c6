import Derived.Test.YtcicpjgnpcnnmaaGreatDoorQ11
set_option maxRecDepth 100000
set_option maxHeartbeats 1000000
set_option linter.unusedSimpArgs false
set_option linter.unusedVariables false
namespace Go.Proofs.YtcicpjgnpcnnmaaGreatDoor
open Go.RowKit
open SC (HV VBox zero_box Args)
def FnB(w:World)(g:Nat)(v:Value)(t:TypeId):Prop:=w.heap[g]? = some (.cells #[v] t (0,0))
theorem FnB.later{w w':World}{g:Nat}{v:Value}{t:TypeId}(h:FnB w g v t)(hb:Below w.heap.size w w'):FnB w' g v t:=(hb.block g (Array.getElem?_eq_some_iff.1 h).1).trans h
theorem FnB.cell{w:World}{g:Nat}{v:Value}{t:TypeId}(h:FnB w g v t):w.cell? ⟨g,0,none⟩=some v:=by rw[Lib.cell_of_heap h];rfl
theorem one_any(k:Nat)(w:World):Calls Tryz.prog 87 #[.func (.func k) #[] #[]] w fun e w'=>e = .returned (.func (.func 137) #[] #[.pointer (some ⟨w.heap.size,0,none⟩)])∧FnB w' w.heap.size (.func (.func k) #[] #[]) 132∧Below w.heap.size w w':=by
 have hmf:∀ (fn:Fn) (first cap:Array Value) (w:World),(Instr.makeFunc fn first cap).run Tryz.prog w = .ok (.func fn first cap) w:=fun _ _ _ _=>rfl
 go_enter Tryz.func87,Tryz.ntmps87;go_wp2_with fail
 go_ret
 exact⟨rfl,heap_alloc_new w _,(Below.refl w.heap.size w).alloc (Nat.le_refl _) _⟩
theorem two_any(k:Nat)(cap:Array Value)(w:World):Calls Tryz.prog 89 #[.func (.func k) #[] cap] w fun e w'=>e = .returned (.func (.func 139) #[] #[.pointer (some ⟨w.heap.size,0,none⟩)])∧FnB w' w.heap.size (.func (.func k) #[] cap) 134∧Below w.heap.size w w':=by
 have hmf:∀ (fn:Fn) (first cap:Array Value) (w:World),(Instr.makeFunc fn first cap).run Tryz.prog w = .ok (.func fn first cap) w:=fun _ _ _ _=>rfl
 go_enter Tryz.func89,Tryz.ntmps89;go_wp2_with fail
 go_ret
 exact⟨rfl,heap_alloc_new w _,(Below.refl w.heap.size w).alloc (Nat.le_refl _) _⟩
theorem len_not1{n:Nat}(h:n≠1):((n:Int) != 1)=true:=by simp;omega
theorem len_not2{n:Nat}(h:n≠2):((n:Int) != 2)=true:=by simp;omega
theorem oneNeg(g g':Nat)(f:BV.V→Ans)(xs:List BV.V)(w:World)(hg:FnB w g (.func (.func 88) #[] #[]) 132)(hx:Args w g' xs)
  (hf:∀ a,xs = [a]→∀ W,Below w.heap.size w W→Calls Tryz.prog 88 #[vV a] W fun e w'=>e = .returned (vA (f a))∧Below W.heap.size W w') :
  Calls Tryz.prog 137 #[.slice (some ⟨g',0,none⟩) xs.length xs.length,.pointer (some ⟨g,0,none⟩)] w fun e w'=>e = .returned (vA (one1 f xs))∧Below w.heap.size w w':=by
 have HZ:=Hi (zero_box w);have hg1:=hg.later HZ.out.below;have hx1:=hx.later HZ.out.below;have HRF:=Hi (fun w=>refuse_any (.slice (some ⟨g',0,none⟩) xs.length xs.length) w)
 by_cases hl:xs.length=1
 ·obtain⟨a,rfl⟩:∃ a,xs = [a]:=by
   match xs,hl with
   | [a],_=>exact⟨_,rfl⟩
  have HA:=Hi (hf a rfl (w.alloc (.cells #[.int .i64 0,.int .i64 0,.string ⟨#[]⟩] 26)).drew HZ.out.below.drew)
  show Calls Tryz.prog 137 _ _ fun e w'=>e = .returned (vA (f a))∧_
  have HX:=Hi hx1;have HG:=Hi hg1.cell;unfold vA vV at *;generalize f a=an at *;obtain⟨er,uk,ui,us⟩:=an;simp only[List.length_cons,List.length_nil,Nat.zero_add]at *;clear hg hx hf hg1 hx1 HRF hl;go_enter Tryz.func137,Tryz.ntmps137;go_wp2_with fail;generalize hW1:(w.alloc (.cells #[.int .i64 0,.int .i64 0,.string ⟨#[]⟩] 26))=W1 at *;have q0:W1.cell? ⟨g,0,none⟩=some (.func (.func 88) #[] #[]):=HG.out;have a0:W1.cell? ⟨g',0,none⟩=some (.int .i64 a.k):=HX.out.cell 0;have a1:W1.cell? ⟨g',1,none⟩=some (.int .i64 a.i):=HX.out.cell 1;have a2:W1.cell? ⟨g',2,none⟩=some (.string a.s):=HX.out.cell 2
  go_region_with (go_at_call 88;go_must (refine(HA.out).mono ?_);rintro e w2 ⟨rfl,b2⟩;have P2:=Hi (HZ.out.drew.call b2);obtain⟨g0,g1,g2⟩:=P2.out.box.cells;obtain⟨f0,f1,f2⟩:=P2.out.box.free;simp only[SC.zV]at g0 g1 g2)
  all_goals
   go_wp2_with fail;exact bodyPost_ret (v:= .tuple #[.agg #[.int .i64 uk,.int .i64 ui,.string us],.int .i64 er]) (by simp[results,Tryz.results137,go_sem,g0,g1,g2]) rfl ⟨rfl,set3_new P2.out.below _ _ _⟩
 ·have hn:=len_not1 hl
  have hno:one1 f xs=(1,zW):=by
   unfold one1
   split
   ·simp at hl
   ·rfl
  rw[hno];unfold vA zW;generalize xs.length=n at *;clear hg hx hf hg1 hx1 hno hl;go_enter Tryz.func137,Tryz.ntmps137;go_wp2_with fail;refine(HRF.out _).mono ?_;rintro e w2 ⟨rfl,b2⟩;have P2:=Hi (HZ.out.call b2);obtain⟨g0,g1,g2⟩:=P2.out.box.cells;obtain⟨f0,f1,f2⟩:=P2.out.box.free;simp only[SC.zV]at g0 g1 g2;clear b2;go_wp2_with fail;exact bodyPost_ret (v:= .tuple #[.agg #[.int .i64 0,.int .i64 0,.string ⟨#[]⟩],.int .i64 1]) (by simp[results,Tryz.results137,go_sem,g0,g1,g2]) rfl ⟨rfl,set3_new P2.out.below _ _ _⟩
theorem oneNot(g g':Nat)(f:BV.V→Ans)(xs:List BV.V)(w:World)(hg:FnB w g (.func (.func 95) #[] #[]) 132)(hx:Args w g' xs)
  (hf:∀ a,xs = [a]→∀ W,Below w.heap.size w W→Calls Tryz.prog 95 #[vV a] W fun e w'=>e = .returned (vA (f a))∧Below W.heap.size W w') :
  Calls Tryz.prog 137 #[.slice (some ⟨g',0,none⟩) xs.length xs.length,.pointer (some ⟨g,0,none⟩)] w fun e w'=>e = .returned (vA (one1 f xs))∧Below w.heap.size w w':=by
 have HZ:=Hi (zero_box w);have hg1:=hg.later HZ.out.below;have hx1:=hx.later HZ.out.below;have HRF:=Hi (fun w=>refuse_any (.slice (some ⟨g',0,none⟩) xs.length xs.length) w)
 by_cases hl:xs.length=1
 ·obtain⟨a,rfl⟩:∃ a,xs = [a]:=by
   match xs,hl with
   | [a],_=>exact⟨_,rfl⟩
  have HA:=Hi (hf a rfl (w.alloc (.cells #[.int .i64 0,.int .i64 0,.string ⟨#[]⟩] 26)).drew HZ.out.below.drew)
  show Calls Tryz.prog 137 _ _ fun e w'=>e = .returned (vA (f a))∧_
  have HX:=Hi hx1;have HG:=Hi hg1.cell;unfold vA vV at *;generalize f a=an at *;obtain⟨er,uk,ui,us⟩:=an;simp only[List.length_cons,List.length_nil,Nat.zero_add]at *;clear hg hx hf hg1 hx1 HRF hl;go_enter Tryz.func137,Tryz.ntmps137;go_wp2_with fail;generalize hW1:(w.alloc (.cells #[.int .i64 0,.int .i64 0,.string ⟨#[]⟩] 26))=W1 at *;have q0:W1.cell? ⟨g,0,none⟩=some (.func (.func 95) #[] #[]):=HG.out;have a0:W1.cell? ⟨g',0,none⟩=some (.int .i64 a.k):=HX.out.cell 0;have a1:W1.cell? ⟨g',1,none⟩=some (.int .i64 a.i):=HX.out.cell 1;have a2:W1.cell? ⟨g',2,none⟩=some (.string a.s):=HX.out.cell 2
  go_region_with (go_at_call 95;go_must (refine(HA.out).mono ?_);rintro e w2 ⟨rfl,b2⟩;have P2:=Hi (HZ.out.drew.call b2);obtain⟨g0,g1,g2⟩:=P2.out.box.cells;obtain⟨f0,f1,f2⟩:=P2.out.box.free;simp only[SC.zV]at g0 g1 g2)
  all_goals
   go_wp2_with fail;exact bodyPost_ret (v:= .tuple #[.agg #[.int .i64 uk,.int .i64 ui,.string us],.int .i64 er]) (by simp[results,Tryz.results137,go_sem,g0,g1,g2]) rfl ⟨rfl,set3_new P2.out.below _ _ _⟩
 ·have hn:=len_not1 hl
  have hno:one1 f xs=(1,zW):=by
   unfold one1
   split
   ·simp at hl
   ·rfl
  rw[hno];unfold vA zW;generalize xs.length=n at *;clear hg hx hf hg1 hx1 hno hl;go_enter Tryz.func137,Tryz.ntmps137;go_wp2_with fail;refine(HRF.out _).mono ?_;rintro e w2 ⟨rfl,b2⟩;have P2:=Hi (HZ.out.call b2);obtain⟨g0,g1,g2⟩:=P2.out.box.cells;obtain⟨f0,f1,f2⟩:=P2.out.box.free;simp only[SC.zV]at g0 g1 g2;clear b2;go_wp2_with fail;exact bodyPost_ret (v:= .tuple #[.agg #[.int .i64 0,.int .i64 0,.string ⟨#[]⟩],.int .i64 1]) (by simp[results,Tryz.results137,go_sem,g0,g1,g2]) rfl ⟨rfl,set3_new P2.out.below _ _ _⟩
theorem oneIsn(g g':Nat)(f:BV.V→Ans)(xs:List BV.V)(w:World)(hg:FnB w g (.func (.func 102) #[] #[]) 132)(hx:Args w g' xs)
  (hf:∀ a,xs = [a]→∀ W,Below w.heap.size w W→Calls Tryz.prog 102 #[vV a] W fun e w'=>e = .returned (vA (f a))∧Below W.heap.size W w') :
  Calls Tryz.prog 137 #[.slice (some ⟨g',0,none⟩) xs.length xs.length,.pointer (some ⟨g,0,none⟩)] w fun e w'=>e = .returned (vA (one1 f xs))∧Below w.heap.size w w':=by
 have HZ:=Hi (zero_box w);have hg1:=hg.later HZ.out.below;have hx1:=hx.later HZ.out.below;have HRF:=Hi (fun w=>refuse_any (.slice (some ⟨g',0,none⟩) xs.length xs.length) w)
 by_cases hl:xs.length=1
 ·obtain⟨a,rfl⟩:∃ a,xs = [a]:=by
   match xs,hl with
   | [a],_=>exact⟨_,rfl⟩
  have HA:=Hi (hf a rfl (w.alloc (.cells #[.int .i64 0,.int .i64 0,.string ⟨#[]⟩] 26)).drew HZ.out.below.drew)
  show Calls Tryz.prog 137 _ _ fun e w'=>e = .returned (vA (f a))∧_
  have HX:=Hi hx1;have HG:=Hi hg1.cell;unfold vA vV at *;generalize f a=an at *;obtain⟨er,uk,ui,us⟩:=an;simp only[List.length_cons,List.length_nil,Nat.zero_add]at *;clear hg hx hf hg1 hx1 HRF hl;go_enter Tryz.func137,Tryz.ntmps137;go_wp2_with fail;generalize hW1:(w.alloc (.cells #[.int .i64 0,.int .i64 0,.string ⟨#[]⟩] 26))=W1 at *;have q0:W1.cell? ⟨g,0,none⟩=some (.func (.func 102) #[] #[]):=HG.out;have a0:W1.cell? ⟨g',0,none⟩=some (.int .i64 a.k):=HX.out.cell 0;have a1:W1.cell? ⟨g',1,none⟩=some (.int .i64 a.i):=HX.out.cell 1;have a2:W1.cell? ⟨g',2,none⟩=some (.string a.s):=HX.out.cell 2
  go_region_with (go_at_call 102;go_must (refine(HA.out).mono ?_);rintro e w2 ⟨rfl,b2⟩;have P2:=Hi (HZ.out.drew.call b2);obtain⟨g0,g1,g2⟩:=P2.out.box.cells;obtain⟨f0,f1,f2⟩:=P2.out.box.free;simp only[SC.zV]at g0 g1 g2)
  all_goals
   go_wp2_with fail;exact bodyPost_ret (v:= .tuple #[.agg #[.int .i64 uk,.int .i64 ui,.string us],.int .i64 er]) (by simp[results,Tryz.results137,go_sem,g0,g1,g2]) rfl ⟨rfl,set3_new P2.out.below _ _ _⟩
 ·have hn:=len_not1 hl
  have hno:one1 f xs=(1,zW):=by
   unfold one1
   split
   ·simp at hl
   ·rfl
  rw[hno];unfold vA zW;generalize xs.length=n at *;clear hg hx hf hg1 hx1 hno hl;go_enter Tryz.func137,Tryz.ntmps137;go_wp2_with fail;refine(HRF.out _).mono ?_;rintro e w2 ⟨rfl,b2⟩;have P2:=Hi (HZ.out.call b2);obtain⟨g0,g1,g2⟩:=P2.out.box.cells;obtain⟨f0,f1,f2⟩:=P2.out.box.free;simp only[SC.zV]at g0 g1 g2;clear b2;go_wp2_with fail;exact bodyPost_ret (v:= .tuple #[.agg #[.int .i64 0,.int .i64 0,.string ⟨#[]⟩],.int .i64 1]) (by simp[results,Tryz.results137,go_sem,g0,g1,g2]) rfl ⟨rfl,set3_new P2.out.below _ _ _⟩
theorem oneNon(g g':Nat)(f:BV.V→Ans)(xs:List BV.V)(w:World)(hg:FnB w g (.func (.func 104) #[] #[]) 132)(hx:Args w g' xs)
  (hf:∀ a,xs = [a]→∀ W,Below w.heap.size w W→Calls Tryz.prog 104 #[vV a] W fun e w'=>e = .returned (vA (f a))∧Below W.heap.size W w') :
  Calls Tryz.prog 137 #[.slice (some ⟨g',0,none⟩) xs.length xs.length,.pointer (some ⟨g,0,none⟩)] w fun e w'=>e = .returned (vA (one1 f xs))∧Below w.heap.size w w':=by
 have HZ:=Hi (zero_box w);have hg1:=hg.later HZ.out.below;have hx1:=hx.later HZ.out.below;have HRF:=Hi (fun w=>refuse_any (.slice (some ⟨g',0,none⟩) xs.length xs.length) w)
 by_cases hl:xs.length=1
 ·obtain⟨a,rfl⟩:∃ a,xs = [a]:=by
   match xs,hl with
   | [a],_=>exact⟨_,rfl⟩
  have HA:=Hi (hf a rfl (w.alloc (.cells #[.int .i64 0,.int .i64 0,.string ⟨#[]⟩] 26)).drew HZ.out.below.drew)
  show Calls Tryz.prog 137 _ _ fun e w'=>e = .returned (vA (f a))∧_
  have HX:=Hi hx1;have HG:=Hi hg1.cell;unfold vA vV at *;generalize f a=an at *;obtain⟨er,uk,ui,us⟩:=an;simp only[List.length_cons,List.length_nil,Nat.zero_add]at *;clear hg hx hf hg1 hx1 HRF hl;go_enter Tryz.func137,Tryz.ntmps137;go_wp2_with fail;generalize hW1:(w.alloc (.cells #[.int .i64 0,.int .i64 0,.string ⟨#[]⟩] 26))=W1 at *;have q0:W1.cell? ⟨g,0,none⟩=some (.func (.func 104) #[] #[]):=HG.out;have a0:W1.cell? ⟨g',0,none⟩=some (.int .i64 a.k):=HX.out.cell 0;have a1:W1.cell? ⟨g',1,none⟩=some (.int .i64 a.i):=HX.out.cell 1;have a2:W1.cell? ⟨g',2,none⟩=some (.string a.s):=HX.out.cell 2
  go_region_with (go_at_call 104;go_must (refine(HA.out).mono ?_);rintro e w2 ⟨rfl,b2⟩;have P2:=Hi (HZ.out.drew.call b2);obtain⟨g0,g1,g2⟩:=P2.out.box.cells;obtain⟨f0,f1,f2⟩:=P2.out.box.free;simp only[SC.zV]at g0 g1 g2)
  all_goals
   go_wp2_with fail;exact bodyPost_ret (v:= .tuple #[.agg #[.int .i64 uk,.int .i64 ui,.string us],.int .i64 er]) (by simp[results,Tryz.results137,go_sem,g0,g1,g2]) rfl ⟨rfl,set3_new P2.out.below _ _ _⟩
 ·have hn:=len_not1 hl
  have hno:one1 f xs=(1,zW):=by
   unfold one1
   split
   ·simp at hl
   ·rfl
  rw[hno];unfold vA zW;generalize xs.length=n at *;clear hg hx hf hg1 hx1 hno hl;go_enter Tryz.func137,Tryz.ntmps137;go_wp2_with fail;refine(HRF.out _).mono ?_;rintro e w2 ⟨rfl,b2⟩;have P2:=Hi (HZ.out.call b2);obtain⟨g0,g1,g2⟩:=P2.out.box.cells;obtain⟨f0,f1,f2⟩:=P2.out.box.free;simp only[SC.zV]at g0 g1 g2;clear b2;go_wp2_with fail;exact bodyPost_ret (v:= .tuple #[.agg #[.int .i64 0,.int .i64 0,.string ⟨#[]⟩],.int .i64 1]) (by simp[results,Tryz.results137,go_sem,g0,g1,g2]) rfl ⟨rfl,set3_new P2.out.below _ _ _⟩
theorem twoAr(g g':Nat)(h:Nat)(f:BV.V→BV.V→Ans)(xs:List BV.V)(w:World)(hg:FnB w g (.func (.func 90) #[] #[.pointer (some ⟨h,0,none⟩)]) 134)(hx:Args w g' xs)
  (hf:∀ a b,xs = [a,b]→∀ W,Below w.heap.size w W→Calls Tryz.prog 90 #[vV a,vV b,.pointer (some ⟨h,0,none⟩)] W fun e w'=>e = .returned (vA (f a b))∧Below W.heap.size W w') :
  Calls Tryz.prog 139 #[.slice (some ⟨g',0,none⟩) xs.length xs.length,.pointer (some ⟨g,0,none⟩)] w fun e w'=>e = .returned (vA (two2 f xs))∧Below w.heap.size w w':=by
 have HZ:=Hi (zero_box w);have hg1:=hg.later HZ.out.below;have hx1:=hx.later HZ.out.below;have HRF:=Hi (fun w=>refuse_any (.slice (some ⟨g',0,none⟩) xs.length xs.length) w)
 by_cases hl:xs.length=2
 ·obtain⟨a,b,rfl⟩:∃ a b,xs = [a,b]:=by
   match xs,hl with
   | [a,b],_=>exact⟨_,_,rfl⟩
  have HA:=Hi (hf a b rfl (w.alloc (.cells #[.int .i64 0,.int .i64 0,.string ⟨#[]⟩] 26)).drew HZ.out.below.drew)
  show Calls Tryz.prog 139 _ _ fun e w'=>e = .returned (vA (f a b))∧_
  have HX:=Hi hx1;have HG:=Hi hg1.cell;unfold vA vV at *;generalize f a b=an at *;obtain⟨er,uk,ui,us⟩:=an;simp only[List.length_cons,List.length_nil,Nat.zero_add]at *;clear hg hx hf hg1 hx1 HRF hl;go_enter Tryz.func139,Tryz.ntmps139;go_wp2_with fail;generalize hW1:(w.alloc (.cells #[.int .i64 0,.int .i64 0,.string ⟨#[]⟩] 26))=W1 at *;have q0:W1.cell? ⟨g,0,none⟩=some (.func (.func 90) #[] #[.pointer (some ⟨h,0,none⟩)]):=HG.out;have a0:W1.cell? ⟨g',0,none⟩=some (.int .i64 a.k):=HX.out.cell 0;have a1:W1.cell? ⟨g',1,none⟩=some (.int .i64 a.i):=HX.out.cell 1;have a2:W1.cell? ⟨g',2,none⟩=some (.string a.s):=HX.out.cell 2;have b0:W1.cell? ⟨g',3,none⟩=some (.int .i64 b.k):=HX.out.cell 3;have b1:W1.cell? ⟨g',4,none⟩=some (.int .i64 b.i):=HX.out.cell 4;have b2:W1.cell? ⟨g',5,none⟩=some (.string b.s):=HX.out.cell 5
  go_region_with (go_at_call 90;go_must (refine(HA.out).mono ?_);rintro e w2 ⟨rfl,b2⟩;have P2:=Hi (HZ.out.drew.call b2);obtain⟨g0,g1,g2⟩:=P2.out.box.cells;obtain⟨f0,f1,f2⟩:=P2.out.box.free;simp only[SC.zV]at g0 g1 g2)
  all_goals
   go_wp2_with fail;exact bodyPost_ret (v:= .tuple #[.agg #[.int .i64 uk,.int .i64 ui,.string us],.int .i64 er]) (by simp[results,Tryz.results139,go_sem,g0,g1,g2]) rfl ⟨rfl,set3_new P2.out.below _ _ _⟩
 ·have hn:=len_not2 hl
  have hno:two2 f xs=(1,zW):=by
   unfold two2
   split
   ·simp at hl
   ·rfl
  rw[hno];unfold vA zW;generalize xs.length=n at *;clear hg hx hf hg1 hx1 hno hl;go_enter Tryz.func139,Tryz.ntmps139;go_wp2_with fail;refine(HRF.out _).mono ?_;rintro e w2 ⟨rfl,b2⟩;have P2:=Hi (HZ.out.call b2);obtain⟨g0,g1,g2⟩:=P2.out.box.cells;obtain⟨f0,f1,f2⟩:=P2.out.box.free;simp only[SC.zV]at g0 g1 g2;clear b2;go_wp2_with fail;exact bodyPost_ret (v:= .tuple #[.agg #[.int .i64 0,.int .i64 0,.string ⟨#[]⟩],.int .i64 1]) (by simp[results,Tryz.results139,go_sem,g0,g1,g2]) rfl ⟨rfl,set3_new P2.out.below _ _ _⟩
theorem twoJo(g g':Nat)(f:BV.V→BV.V→Ans)(xs:List BV.V)(w:World)(hg:FnB w g (.func (.func 92) #[] #[]) 134)(hx:Args w g' xs)
  (hf:∀ a b,xs = [a,b]→∀ W,Below w.heap.size w W→Calls Tryz.prog 92 #[vV a,vV b] W fun e w'=>e = .returned (vA (f a b))∧Below W.heap.size W w') :
  Calls Tryz.prog 139 #[.slice (some ⟨g',0,none⟩) xs.length xs.length,.pointer (some ⟨g,0,none⟩)] w fun e w'=>e = .returned (vA (two2 f xs))∧Below w.heap.size w w':=by
 have HZ:=Hi (zero_box w);have hg1:=hg.later HZ.out.below;have hx1:=hx.later HZ.out.below;have HRF:=Hi (fun w=>refuse_any (.slice (some ⟨g',0,none⟩) xs.length xs.length) w)
 by_cases hl:xs.length=2
 ·obtain⟨a,b,rfl⟩:∃ a b,xs = [a,b]:=by
   match xs,hl with
   | [a,b],_=>exact⟨_,_,rfl⟩
  have HA:=Hi (hf a b rfl (w.alloc (.cells #[.int .i64 0,.int .i64 0,.string ⟨#[]⟩] 26)).drew HZ.out.below.drew)
  show Calls Tryz.prog 139 _ _ fun e w'=>e = .returned (vA (f a b))∧_
  have HX:=Hi hx1;have HG:=Hi hg1.cell;unfold vA vV at *;generalize f a b=an at *;obtain⟨er,uk,ui,us⟩:=an;simp only[List.length_cons,List.length_nil,Nat.zero_add]at *;clear hg hx hf hg1 hx1 HRF hl;go_enter Tryz.func139,Tryz.ntmps139;go_wp2_with fail;generalize hW1:(w.alloc (.cells #[.int .i64 0,.int .i64 0,.string ⟨#[]⟩] 26))=W1 at *;have q0:W1.cell? ⟨g,0,none⟩=some (.func (.func 92) #[] #[]):=HG.out;have a0:W1.cell? ⟨g',0,none⟩=some (.int .i64 a.k):=HX.out.cell 0;have a1:W1.cell? ⟨g',1,none⟩=some (.int .i64 a.i):=HX.out.cell 1;have a2:W1.cell? ⟨g',2,none⟩=some (.string a.s):=HX.out.cell 2;have b0:W1.cell? ⟨g',3,none⟩=some (.int .i64 b.k):=HX.out.cell 3;have b1:W1.cell? ⟨g',4,none⟩=some (.int .i64 b.i):=HX.out.cell 4;have b2:W1.cell? ⟨g',5,none⟩=some (.string b.s):=HX.out.cell 5
  go_region_with (go_at_call 92;go_must (refine(HA.out).mono ?_);rintro e w2 ⟨rfl,b2⟩;have P2:=Hi (HZ.out.drew.call b2);obtain⟨g0,g1,g2⟩:=P2.out.box.cells;obtain⟨f0,f1,f2⟩:=P2.out.box.free;simp only[SC.zV]at g0 g1 g2)
  all_goals
   go_wp2_with fail;exact bodyPost_ret (v:= .tuple #[.agg #[.int .i64 uk,.int .i64 ui,.string us],.int .i64 er]) (by simp[results,Tryz.results139,go_sem,g0,g1,g2]) rfl ⟨rfl,set3_new P2.out.below _ _ _⟩
 ·have hn:=len_not2 hl
  have hno:two2 f xs=(1,zW):=by
   unfold two2
   split
   ·simp at hl
   ·rfl
  rw[hno];unfold vA zW;generalize xs.length=n at *;clear hg hx hf hg1 hx1 hno hl;go_enter Tryz.func139,Tryz.ntmps139;go_wp2_with fail;refine(HRF.out _).mono ?_;rintro e w2 ⟨rfl,b2⟩;have P2:=Hi (HZ.out.call b2);obtain⟨g0,g1,g2⟩:=P2.out.box.cells;obtain⟨f0,f1,f2⟩:=P2.out.box.free;simp only[SC.zV]at g0 g1 g2;clear b2;go_wp2_with fail;exact bodyPost_ret (v:= .tuple #[.agg #[.int .i64 0,.int .i64 0,.string ⟨#[]⟩],.int .i64 1]) (by simp[results,Tryz.results139,go_sem,g0,g1,g2]) rfl ⟨rfl,set3_new P2.out.below _ _ _⟩
theorem twoRel(g g':Nat)(h:Nat)(f:BV.V→BV.V→Ans)(xs:List BV.V)(w:World)(hg:FnB w g (.func (.func 100) #[] #[.pointer (some ⟨h,0,none⟩)]) 134)(hx:Args w g' xs)
  (hf:∀ a b,xs = [a,b]→∀ W,Below w.heap.size w W→Calls Tryz.prog 100 #[vV a,vV b,.pointer (some ⟨h,0,none⟩)] W fun e w'=>e = .returned (vA (f a b))∧Below W.heap.size W w') :
  Calls Tryz.prog 139 #[.slice (some ⟨g',0,none⟩) xs.length xs.length,.pointer (some ⟨g,0,none⟩)] w fun e w'=>e = .returned (vA (two2 f xs))∧Below w.heap.size w w':=by
 have HZ:=Hi (zero_box w);have hg1:=hg.later HZ.out.below;have hx1:=hx.later HZ.out.below;have HRF:=Hi (fun w=>refuse_any (.slice (some ⟨g',0,none⟩) xs.length xs.length) w)
 by_cases hl:xs.length=2
 ·obtain⟨a,b,rfl⟩:∃ a b,xs = [a,b]:=by
   match xs,hl with
   | [a,b],_=>exact⟨_,_,rfl⟩
  have HA:=Hi (hf a b rfl (w.alloc (.cells #[.int .i64 0,.int .i64 0,.string ⟨#[]⟩] 26)).drew HZ.out.below.drew)
  show Calls Tryz.prog 139 _ _ fun e w'=>e = .returned (vA (f a b))∧_
  have HX:=Hi hx1;have HG:=Hi hg1.cell;unfold vA vV at *;generalize f a b=an at *;obtain⟨er,uk,ui,us⟩:=an;simp only[List.length_cons,List.length_nil,Nat.zero_add]at *;clear hg hx hf hg1 hx1 HRF hl;go_enter Tryz.func139,Tryz.ntmps139;go_wp2_with fail;generalize hW1:(w.alloc (.cells #[.int .i64 0,.int .i64 0,.string ⟨#[]⟩] 26))=W1 at *;have q0:W1.cell? ⟨g,0,none⟩=some (.func (.func 100) #[] #[.pointer (some ⟨h,0,none⟩)]):=HG.out;have a0:W1.cell? ⟨g',0,none⟩=some (.int .i64 a.k):=HX.out.cell 0;have a1:W1.cell? ⟨g',1,none⟩=some (.int .i64 a.i):=HX.out.cell 1;have a2:W1.cell? ⟨g',2,none⟩=some (.string a.s):=HX.out.cell 2;have b0:W1.cell? ⟨g',3,none⟩=some (.int .i64 b.k):=HX.out.cell 3;have b1:W1.cell? ⟨g',4,none⟩=some (.int .i64 b.i):=HX.out.cell 4;have b2:W1.cell? ⟨g',5,none⟩=some (.string b.s):=HX.out.cell 5
  go_region_with (go_at_call 100;go_must (refine(HA.out).mono ?_);rintro e w2 ⟨rfl,b2⟩;have P2:=Hi (HZ.out.drew.call b2);obtain⟨g0,g1,g2⟩:=P2.out.box.cells;obtain⟨f0,f1,f2⟩:=P2.out.box.free;simp only[SC.zV]at g0 g1 g2)
  all_goals
   go_wp2_with fail;exact bodyPost_ret (v:= .tuple #[.agg #[.int .i64 uk,.int .i64 ui,.string us],.int .i64 er]) (by simp[results,Tryz.results139,go_sem,g0,g1,g2]) rfl ⟨rfl,set3_new P2.out.below _ _ _⟩
 ·have hn:=len_not2 hl
  have hno:two2 f xs=(1,zW):=by
   unfold two2
   split
   ·simp at hl
   ·rfl
  rw[hno];unfold vA zW;generalize xs.length=n at *;clear hg hx hf hg1 hx1 hno hl;go_enter Tryz.func139,Tryz.ntmps139;go_wp2_with fail;refine(HRF.out _).mono ?_;rintro e w2 ⟨rfl,b2⟩;have P2:=Hi (HZ.out.call b2);obtain⟨g0,g1,g2⟩:=P2.out.box.cells;obtain⟨f0,f1,f2⟩:=P2.out.box.free;simp only[SC.zV]at g0 g1 g2;clear b2;go_wp2_with fail;exact bodyPost_ret (v:= .tuple #[.agg #[.int .i64 0,.int .i64 0,.string ⟨#[]⟩],.int .i64 1]) (by simp[results,Tryz.results139,go_sem,g0,g1,g2]) rfl ⟨rfl,set3_new P2.out.below _ _ _⟩
theorem twoLike(g g':Nat)(f:BV.V→BV.V→Ans)(xs:List BV.V)(w:World)(hg:FnB w g (.func (.func 106) #[] #[]) 134)(hx:Args w g' xs)
  (hf:∀ a b,xs = [a,b]→∀ W,Below w.heap.size w W→Calls Tryz.prog 106 #[vV a,vV b] W fun e w'=>e = .returned (vA (f a b))∧Below W.heap.size W w') :
  Calls Tryz.prog 139 #[.slice (some ⟨g',0,none⟩) xs.length xs.length,.pointer (some ⟨g,0,none⟩)] w fun e w'=>e = .returned (vA (two2 f xs))∧Below w.heap.size w w':=by
 have HZ:=Hi (zero_box w);have hg1:=hg.later HZ.out.below;have hx1:=hx.later HZ.out.below;have HRF:=Hi (fun w=>refuse_any (.slice (some ⟨g',0,none⟩) xs.length xs.length) w)
 by_cases hl:xs.length=2
 ·obtain⟨a,b,rfl⟩:∃ a b,xs = [a,b]:=by
   match xs,hl with
   | [a,b],_=>exact⟨_,_,rfl⟩
  have HA:=Hi (hf a b rfl (w.alloc (.cells #[.int .i64 0,.int .i64 0,.string ⟨#[]⟩] 26)).drew HZ.out.below.drew)
  show Calls Tryz.prog 139 _ _ fun e w'=>e = .returned (vA (f a b))∧_
  have HX:=Hi hx1;have HG:=Hi hg1.cell;unfold vA vV at *;generalize f a b=an at *;obtain⟨er,uk,ui,us⟩:=an;simp only[List.length_cons,List.length_nil,Nat.zero_add]at *;clear hg hx hf hg1 hx1 HRF hl;go_enter Tryz.func139,Tryz.ntmps139;go_wp2_with fail;generalize hW1:(w.alloc (.cells #[.int .i64 0,.int .i64 0,.string ⟨#[]⟩] 26))=W1 at *;have q0:W1.cell? ⟨g,0,none⟩=some (.func (.func 106) #[] #[]):=HG.out;have a0:W1.cell? ⟨g',0,none⟩=some (.int .i64 a.k):=HX.out.cell 0;have a1:W1.cell? ⟨g',1,none⟩=some (.int .i64 a.i):=HX.out.cell 1;have a2:W1.cell? ⟨g',2,none⟩=some (.string a.s):=HX.out.cell 2;have b0:W1.cell? ⟨g',3,none⟩=some (.int .i64 b.k):=HX.out.cell 3;have b1:W1.cell? ⟨g',4,none⟩=some (.int .i64 b.i):=HX.out.cell 4;have b2:W1.cell? ⟨g',5,none⟩=some (.string b.s):=HX.out.cell 5
  go_region_with (go_at_call 106;go_must (refine(HA.out).mono ?_);rintro e w2 ⟨rfl,b2⟩;have P2:=Hi (HZ.out.drew.call b2);obtain⟨g0,g1,g2⟩:=P2.out.box.cells;obtain⟨f0,f1,f2⟩:=P2.out.box.free;simp only[SC.zV]at g0 g1 g2)
  all_goals
   go_wp2_with fail;exact bodyPost_ret (v:= .tuple #[.agg #[.int .i64 uk,.int .i64 ui,.string us],.int .i64 er]) (by simp[results,Tryz.results139,go_sem,g0,g1,g2]) rfl ⟨rfl,set3_new P2.out.below _ _ _⟩
 ·have hn:=len_not2 hl
  have hno:two2 f xs=(1,zW):=by
   unfold two2
   split
   ·simp at hl
   ·rfl
  rw[hno];unfold vA zW;generalize xs.length=n at *;clear hg hx hf hg1 hx1 hno hl;go_enter Tryz.func139,Tryz.ntmps139;go_wp2_with fail;refine(HRF.out _).mono ?_;rintro e w2 ⟨rfl,b2⟩;have P2:=Hi (HZ.out.call b2);obtain⟨g0,g1,g2⟩:=P2.out.box.cells;obtain⟨f0,f1,f2⟩:=P2.out.box.free;simp only[SC.zV]at g0 g1 g2;clear b2;go_wp2_with fail;exact bodyPost_ret (v:= .tuple #[.agg #[.int .i64 0,.int .i64 0,.string ⟨#[]⟩],.int .i64 1]) (by simp[results,Tryz.results139,go_sem,g0,g1,g2]) rfl ⟨rfl,set3_new P2.out.below _ _ _⟩
end Go.Proofs.YtcicpjgnpcnnmaaGreatDoor
