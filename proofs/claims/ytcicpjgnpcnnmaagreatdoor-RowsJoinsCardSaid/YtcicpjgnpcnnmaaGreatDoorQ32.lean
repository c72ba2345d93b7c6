import Derived.Test.YtcicpjgnpcnnmaaGreatDoorQ31
set_option linter.unusedSimpArgs false
set_option linter.unusedVariables false
namespace Go.Proofs.YtcicpjgnpcnnmaaGreatDoor.BV
open Go.RowKit
def vals(rs:List R):List Value:=rs.map R.val
theorem vals_len(rs:List R):(vals rs).length=rs.length:=by simp[vals]
theorem RowsAt.cells{w:World}{B b off:Nat}{rs:List R}(h:RowsAt w B (some ⟨b,off,none⟩) rs):∀ j u,(vals rs)[j]? = some u→w.cell? ((⟨b,off,none⟩:Addr).add j)=some u:=by
 intro j u hu
 have hj:j < rs.length:=by
  have:=(List.getElem?_eq_some_iff.1 hu).1
  rwa [vals_len]at this
 obtain⟨b',off',hA,-,hc⟩:=h.1 (by omega)
 simp at hA
 obtain⟨rfl,rfl⟩:=hA;have:=hc j hj;rw[WideShapes.add_plain]
 simp[vals,hj]at hu
 rw[←hu];exact this
theorem RowsAt.take{w:World}{B:Nat}{A:Option Addr}{rs:List R}(h:RowsAt w B A rs)(k:Nat):RowsAt w B A (rs.take k):=by
 refine⟨fun h0 => ?_,fun r hr=>h.2 r (List.mem_of_mem_take hr)⟩
 obtain⟨b,off,hA,hlt,hc⟩:=h.1 (by rw[List.length_take]at h0;omega)
 refine⟨b,off,hA,hlt,fun j hj => ?_⟩
 have:=hc j (by rw[List.length_take]at hj;omega)
 simpa using this
theorem RowsAt.drop{w:World}{B b off:Nat}{rs:List R}(h:RowsAt w B (some ⟨b,off,none⟩) rs)(k:Nat):RowsAt w B (some ⟨b,off+k,none⟩) (rs.drop k):=by
 refine⟨fun h0 => ?_,fun r hr=>h.2 r (List.mem_of_mem_drop hr)⟩
 obtain⟨b',off',hA,hlt,hc⟩:=h.1 (by rw[List.length_drop]at h0;omega)
 simp at hA
 obtain⟨rfl,rfl⟩:=hA;refine⟨b,off+k,rfl,hlt,fun j hj => ?_⟩
 have:=hc (k+j) (by rw[List.length_drop]at hj;omega)
 rw[Nat.add_assoc]
 simpa using this
end Go.Proofs.YtcicpjgnpcnnmaaGreatDoor.BV
namespace Go.Proofs.YtcicpjgnpcnnmaaGreatDoor
open Go.RowKit
def LA(w:World)(A:Option Addr)(n c:Nat)(l:List (List BV.V)):Prop:=∃ rs:List BV.R,rs.length=n∧rs.map BV.R.xs=l∧n≤c∧BV.RowsAt w w.heap.size A rs∧∀ r∈rs,r.xs.length≤r.c
theorem rowsL{w w':World}{A:Option Addr}{rs:List BV.R}(h:BV.RowsAt w w.heap.size A rs)(hb:Below w.heap.size w w'):BV.RowsAt w' w'.heap.size A rs:=by
 have h1:=h.below hb
 exact⟨fun h0=>by
  obtain⟨b,off,a,c,d⟩:=h1.1 h0;exact⟨b,off,a,Nat.lt_of_lt_of_le c hb.size,d⟩,fun r hr=>(h1.2 r hr).mono hb.size⟩
theorem LA.later{w w':World}{A:Option Addr}{n c:Nat}{l:List (List BV.V)}(h:LA w A n c l)(hb:Below w.heap.size w w'):LA w' A n c l:=by
 obtain⟨rs,h1,h2,h3,h4,h5⟩:=h;exact⟨rs,h1,h2,h3,rowsL h4 hb,h5⟩
theorem LA.len{w:World}{A:Option Addr}{n c:Nat}{l:List (List BV.V)}(h:LA w A n c l):l.length=n:=by
 obtain⟨rs,h1,h2,-⟩:=h;rw[←h2,List.length_map,h1]
theorem la_own{w:World}{B:Nat}{v:Value}{l:List (List BV.V)}(h:OwnR w B v l):∃ A c,v = .slice A l.length c∧LA w A l.length c l:=by
 obtain⟨rs,A,c,hv,hl,hc,hr,hr2⟩:=h.rowsC;have e:l.length=rs.length:=by rw[←hl,List.length_map]
 exact⟨A,c,by rw[e];exact hv,rs,e.symm,hl,by omega,hr,hr2⟩
def ToldR(w:World)(er:Int)(l:List (List BV.V))(q:Ending)(w':World):Prop:=∃ A c,q = .returned (.tuple #[.slice A l.length c,.int .i64 er])∧Hid (LA w' A l.length c l)∧Hid (Below w.heap.size w w')
theorem told_of{w:World}{er:Int}{l:List (List BV.V)}{q:Ending}{w':World}(h:Rows2 w er l q w'):ToldR w er l q w':=by
 obtain⟨v,rfl,ho,hb⟩:=h;obtain⟨A,c,rfl,hl⟩:=la_own ho.out;exact⟨A,c,rfl,Hi hl,hb⟩
theorem asks_of{S:Nat→Prop}{e:E}{xv:Value}{w:World}(hx:EAt S w e xv)(hE:SC.Env w){a b:List (List BV.V)}(hw:∀ x∈a,∀ y∈b,(x++y).length≤100000)(hf:∀ x∈a,∀ y∈b,e.fit deedP (x++y)):Asks w xv (truP e) a b:=fun x h1 y h2 W A c hb hr=>truth_e (x++y) (hw x h1 y h2) e xv S W A c (hx.later hb) hr (hE.later hb) (hf x h1 y h2)
theorem mem_xs{rs:List BV.R}{l:List (List BV.V)}(h:rs.map BV.R.xs=l){p:List BV.V→Prop}(hp:∀ x∈l,p x):∀ r∈rs,p r.xs:=fun r hr=>hp _ (by rw[←h];exact List.mem_map.2 ⟨r,hr,rfl⟩)
theorem join_la(kind:ByteArray)(lf rt:Bool)(hsides:∀ W,Calls Tryz.prog 40 #[.string kind] W fun e w'=>e = .returned (.tuple #[.bool lf,.bool rt,.bool true])∧Below W.heap.size W w')(hcr:(kind.toList == [99,114,111,115,115])=false)
  {a b:List (List BV.V)}{A B:Option Addr}{n ca m cb wa wb:Nat}{S:Nat→Prop}{e:E}{x:Value}{w:World}(ha:LA w A n ca a)(hb:LA w B m cb b)(hx:EAt S w e x)(hE:SC.Env w)(hla:n≤500)(hlb:m≤500)(hwa:∀ r∈a,r.length≤60)(hwb:∀ r∈b,r.length≤60)(hna:wa≤60)(hnb:wb≤60)(hf:∀ x∈a,∀ y∈b,e.fit deedP (x++y)) :
  Calls Tryz.prog 17 #[.string kind,.slice A n ca,.slice B m cb,.int .i64 wa,.int .i64 wb,x] w (ToldR w (errsP (truP e) (pairsP a b)) (JRes (truP e) lf rt a b wa wb)):=by
 have hk:=asks_of hx hE (fun x h1 y h2=>by have:=hwa x h1;have:=hwb y h2;rw[List.length_append];omega) hf
 obtain⟨A1,c1,rfl,hs⟩:=hx;obtain⟨ra,rfl,rfl,-,h1,-⟩:=ha;obtain⟨rb,rfl,rfl,-,h2,-⟩:=hb;unfold eVal at hk ⊢;exact(join_kind kind lf rt ra rb A B ca cb wa wb _ _ _ _ _ _ _ (truP e) w hsides hcr h1 h2 hla hlb (mem_xs rfl hwa) (mem_xs rfl hwb) hna hnb hk).mono fun _ _ h=>told_of h
theorem same_la{a b:List (List BV.V)}{A B:Option Addr}{n ca m cb:Nat}{w:World}(ha:LA w A n ca a)(hb:LA w B m cb b)(he:a=b)(hla:n≤1000000)(hwa:∀ r∈a,r.length≤100000) :
  Calls Tryz.prog 26 #[.slice A n ca,.slice B m cb] w fun q w'=>q = .returned (.bool true)∧Below w.heap.size w w':=by
 obtain⟨ra,rfl,rfl,-,h1,-⟩:=ha;obtain⟨rb,rfl,h3,-,h2,-⟩:=hb;have h:=BV.sameRows_any ra rb A B ca cb w h1 h2 (fun r hr=>by have:=mem_xs rfl hwa r hr;omega) (by omega)
 rw[BV.same_yes (show BV.keys ra=BV.keys rb from he.trans h3.symm)]at h
 exact h
theorem sidesInner(W:World):Calls Tryz.prog 40 #[.string ⟨#[105,110,110,101,114]⟩] W fun e w'=>e = .returned (.tuple #[.bool false,.bool false,.bool true])∧Below W.heap.size W w' :=
 sides_any ⟨#[105,110,110,101,114]⟩ true false false false false (by simp only[Lib.toList_data];rfl) (by simp only[Lib.toList_data];rfl) (by simp only[Lib.toList_data];rfl) (by simp only[Lib.toList_data];rfl) (by simp only[Lib.toList_data];rfl) W
theorem sidesLeft(W:World):Calls Tryz.prog 40 #[.string ⟨#[108,101,102,116]⟩] W fun e w'=>e = .returned (.tuple #[.bool true,.bool false,.bool true])∧Below W.heap.size W w' :=
 sides_any ⟨#[108,101,102,116]⟩ false false true false false (by simp only[Lib.toList_data];rfl) (by simp only[Lib.toList_data];rfl) (by simp only[Lib.toList_data];rfl) (by simp only[Lib.toList_data];rfl) (by simp only[Lib.toList_data];rfl) W
theorem crossLeft:(((⟨#[108,101,102,116]⟩:ByteArray)).toList == [99,114,111,115,115])=false:=by simp only[Lib.toList_data];rfl
theorem sidesRight(W:World):Calls Tryz.prog 40 #[.string ⟨#[114,105,103,104,116]⟩] W fun e w'=>e = .returned (.tuple #[.bool false,.bool true,.bool true])∧Below W.heap.size W w' :=
 sides_any ⟨#[114,105,103,104,116]⟩ false false false true false (by simp only[Lib.toList_data];rfl) (by simp only[Lib.toList_data];rfl) (by simp only[Lib.toList_data];rfl) (by simp only[Lib.toList_data];rfl) (by simp only[Lib.toList_data];rfl) W
theorem sidesFull(W:World):Calls Tryz.prog 40 #[.string ⟨#[102,117,108,108]⟩] W fun e w'=>e = .returned (.tuple #[.bool true,.bool true,.bool true])∧Below W.heap.size W w' :=
 sides_any ⟨#[102,117,108,108]⟩ false false false false true (by simp only[Lib.toList_data];rfl) (by simp only[Lib.toList_data];rfl) (by simp only[Lib.toList_data];rfl) (by simp only[Lib.toList_data];rfl) (by simp only[Lib.toList_data];rfl) W
theorem LA.take{w:World}{A:Option Addr}{n c:Nat}{l:List (List BV.V)}(h:LA w A n c l)(k:Nat)(hk:k≤n):LA w A k c (l.take k):=by
 obtain⟨rs,h1,h2,h3,h4,h5⟩:=h;refine⟨rs.take k,by rw[List.length_take];omega,by rw[List.map_take,h2],by omega,⟨fun h0 => ?_,fun r hr=>h4.2 r (List.mem_of_mem_take hr)⟩,fun r hr=>h5 r (List.mem_of_mem_take hr)⟩
 rw[List.length_take]at h0;obtain⟨b,off,a,d,e⟩:=h4.1 (by omega)
 refine⟨b,off,a,d,fun j hj => ?_⟩
 rw[List.length_take]at hj;rw[List.getElem_take];exact e j (by omega)
theorem LA.drop{w:World}{p:Addr}{n c:Nat}{l:List (List BV.V)}(h:LA w (some p) n c l)(k:Nat)(hk:k≤n):LA w (some (p.add k)) (n - k) (c - k) (l.drop k):=by
 obtain⟨rs,h1,h2,h3,h4,h5⟩:=h;refine⟨rs.drop k,by rw[List.length_drop];omega,by rw[List.map_drop,h2],by omega,⟨fun h0 => ?_,fun r hr=>h4.2 r (List.mem_of_mem_drop hr)⟩,fun r hr=>h5 r (List.mem_of_mem_drop hr)⟩
 rw[List.length_drop]at h0;obtain⟨b,off,a,d,e⟩:=h4.1 (by omega)
 injection a with a
 subst a;refine⟨b,off+k,by simp[Addr.add],d,fun j hj => ?_⟩
 rw[List.length_drop]at hj;rw[List.getElem_drop];have:=e (k+j) (by omega)
 rw[show off+k+j=off+(k+j) by omega]
 exact this
theorem LA.nil(w:World)(A:Option Addr)(c:Nat):LA w A 0 c []:=⟨[],rfl,rfl,Nat.zero_le _,⟨fun h=>by simp at h,by simp⟩,by simp⟩
def VFit(v:BV.V):Prop:=(-9223372036854775808≤v.i∧v.i≤9223372036854775807)∧v.s.size≤100000
theorem zW_ok:VFit zW:=⟨by decide,by decide⟩
theorem rowsN_mem{rs:List BV.R}{r:BV.R}(h:r∈rs):1+BV.rowN r.xs≤BV.rowsN rs:=by
 induction rs with
 | nil=>simp at h
 | cons a l ih =>
  have e:BV.rowsN (a::l)=(1+BV.rowN a.xs)+BV.rowsN l:=by simp[BV.rowsN]
  rw[e];rcases List.mem_cons.1 h with h | h
  ·subst h;omega
  ·have:=ih h;omega
theorem rowN_mem{xs:List BV.V}{v:BV.V}(h:v∈xs):1+v.s.size≤BV.rowN xs:=by
 induction xs with
 | nil=>simp at h
 | cons a l ih =>
  have e:BV.rowN (a::l)=(1+a.s.size)+BV.rowN l:=by simp[BV.rowN]
  rw[e];rcases List.mem_cons.1 h with h | h
  ·subst h;omega
  ·have:=ih h;omega
structure Ev(l:List (List BV.V))(w:Nat):Prop where
 many:l.length≤30
 wide:∀ r∈l,r.length=w
 ok:∀ r∈l,∀ v∈r,VFit v
theorem ev_of{rs:List BV.R}(h:evOk rs=true)(hi:∀ r∈rs,∀ v∈r.xs,-9223372036854775808≤v.i∧v.i≤9223372036854775807)(w:Nat):Ev ((rs.map BV.R.xs).map (evR w)) w:=by
 unfold evOk at h;simp only[Bool.and_eq_true,decide_eq_true_eq]at h;obtain⟨⟨h1,h2⟩,-⟩:=h;unfold BV.few at h2;simp only[decide_eq_true_eq]at h2;refine⟨by simpa using h1,fun r hr => ?_,fun r hr v hv => ?_⟩
 ·obtain⟨x,-,rfl⟩:=List.mem_map.1 hr
  exact evR_len w x
 ·obtain⟨x,hx,rfl⟩:=List.mem_map.1 hr
  obtain⟨q,hq,rfl⟩:=List.mem_map.1 hx;unfold evR at hv;rcases List.mem_append.1 hv with hv | hv
  ·have hv:=List.mem_of_mem_take hv
   have a:=rowsN_mem hq;have b:=rowN_mem hv;exact⟨hi q hq v hv,by omega⟩
  ·rw[List.eq_of_mem_replicate hv];exact zW_ok
theorem jl_len(t:List BV.V→Int×Bool)(lf:Bool){a b:List (List BV.V)}(na nb:List BV.V)(rt:Bool)(ha:a.length≤30)(hb:b.length≤30):(jRows t lf rt a b na nb).length≤1000:=by
 have h1:=jleft_len t lf a b nb;have h2:a.length*(b.length+1)≤30*31:=Nat.mul_le_mul ha (by omega)
 unfold jRows;rw[List.length_append]
 split
 ·have h3:(jRight t a b na).length≤b.length:=by unfold jRight;rw[List.length_map];exact List.length_filter_le _ _
  omega
 ·simp only[List.length_nil];omega
theorem pl_len{a b:List (List BV.V)}(ha:a.length≤30)(hb:b.length≤30):(pairsP a b).length≤1000:=by
 rw[pairs_len];have:a.length*b.length≤30*30:=Nat.mul_le_mul ha hb
 omega
theorem pair_wide{a b:List (List BV.V)}{wa wb:Nat}(ha:∀ r∈a,r.length=wa)(hb:∀ r∈b,r.length=wb):∀ r∈pairsP a b,r.length=wa+wb:=fun r hr=>by
 obtain⟨x,hx,y,hy,rfl⟩:=mem_pairs.1 hr;rw[List.length_append,ha x hx,hb y hy]
theorem pair_fit{a b:List (List BV.V)}{wa wb:Nat}(ha:Ev a wa)(hb:Ev b wb){W:Int}{e:E}(ho:okB W e=true)(hin:e.ints=true):∀ x∈a,∀ y∈b,e.fit deedP (x++y):=fun x hx y hy=>bound_fit ho hin _ fun v hv=>by
 rcases List.mem_append.1 hv with h | h
 ·exact ha.ok x hx v h
 ·exact hb.ok y hy v h
theorem cross_res(a b:List (List BV.V))(wa wb:Nat):JRes (fun _=>(0,true)) false false a b wa wb=pairsP a b:=by
 unfold JRes;rw[if_pos (cross_none a b)];unfold jRows;rw[cross_all]
 simp
end Go.Proofs.YtcicpjgnpcnnmaaGreatDoor
