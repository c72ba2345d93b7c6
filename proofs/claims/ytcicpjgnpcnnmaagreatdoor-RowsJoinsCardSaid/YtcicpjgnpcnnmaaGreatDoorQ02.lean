import Derived.Test.YtcicpjgnpcnnmaaGreatDoorQ01
import Derived.IntWalk
import Derived.Deep.QuietTactic
import Derived.BigQuiet
import Derived.Laws.EntriesVeiled
set_option maxRecDepth 100000
set_option maxHeartbeats 4000000
namespace Go.Proofs.YtcicpjgnpcnnmaaGreatDoor.BV
end Go.Proofs.YtcicpjgnpcnnmaaGreatDoor.BV
namespace Go.Proofs.YtcicpjgnpcnnmaaGreatDoor.SC
open BV
open Go.RowKit
def okN(n:Int):Bool:=decide (-9223372036854775808≤n∧n≤9223372036854775807)
def opk(op:ByteArray):Nat:=if op.toList == [43]then 1 else if op.toList == [45]then 2 else if op.toList == [42]then 3 else if op.toList == [47]then 4 else if op.toList == [37]then 5 else 0
def numX(p:Nat)(a b:Int):Int:=if p=1 then a+b else if p=2 then a - b else if p=3 then a*b else if p=4 then a.tdiv b else a.tmod b
def numE(p:Nat)(a b:Int):Int:=if(p=4∨p=5)∧b=0 then 31 else if okN (numX p a b)then 0 else 30
def numR(p:Nat)(a b:Int):Int:=if numE p a b=0 then numX p a b else 0
def In64(n:Int):Prop := -9223372036854775808≤n∧n≤9223372036854775807
theorem okN_iff{n:Int}:okN n=true↔In64 n:=by unfold okN In64;simp
theorem okN_no{n:Int}:okN n=false↔¬In64 n:=by rw[←okN_iff];simp
def fitR(n:Int)(b:Bool):Int:=if b then n else 0
def fitE(b:Bool):Int:=if b then 0 else 30
theorem numE_at{p:Nat}{a b:Int}(h:¬((p=4∨p=5)∧b=0)):numE p a b=fitE (okN (numX p a b)):=by
 unfold numE fitE;rw[if_neg h]
theorem num_fit{p:Nat}{a b n:Int}(h:¬((p=4∨p=5)∧b=0))(hn:In64 (numX p a b)→n=numX p a b):numR p a b=fitR n (okN (numX p a b))∧numE p a b=fitE (okN (numX p a b)):=by
 refine⟨?_,numE_at h⟩;unfold numR;rw[numE_at h];unfold fitR fitE;cases hk:okN (numX p a b)
 ·rfl
 ·simp only[if_true]
  rw[hn (okN_iff.1 hk)]
theorem num_lo{p:Nat}{a b n:Int}(hp:p=1∨p=2∨p=3)(hn:In64 (numX p a b)→n=numX p a b):numR p a b=fitR n (okN (numX p a b))∧numE p a b=fitE (okN (numX p a b)) :=
 num_fit (fun h=>by omega) hn
theorem num_hi{p:Nat}{a b n:Int}(hb:¬b=0)(hn:In64 (numX p a b)→n=numX p a b):numR p a b=fitR n (okN (numX p a b))∧numE p a b=fitE (okN (numX p a b)) :=
 num_fit (fun h=>hb h.2) hn
theorem num_zero{p:Nat}{a:Int}(hp:p=4∨p=5):numR p a 0=0∧numE p a 0=31:=by
 have h:numE p a 0=31:=by unfold numE;rw[if_pos ⟨hp,rfl⟩]
 refine⟨?_,h⟩;unfold numR;rw[h]
 rfl
theorem wrap_cases(n:Int):∃ t:Int,wrap64 n=n+t*18446744073709551616∧In64 (wrap64 n)∧(In64 n→t=0):=by
 unfold wrap64 In64;refine⟨-((n+9223372036854775808) / 18446744073709551616),?_,?_,?_⟩ <;> omega
theorem wrap_id{n:Int}(h:In64 n):wrap64 n=n:=by unfold wrap64;unfold In64 at h;omega
theorem add_tell{a b:Int}(ha:In64 a)(hb:In64 b):(decide (a < wrap64 (a+b)) == decide (0 < b))=okN (a+b)∧(decide (0≤b) == decide (a≤wrap64 (a+b)))=okN (a+b):=by
 obtain⟨t,h1,h2,h3⟩:=wrap_cases (a+b);rw[h1]at h2 ⊢;unfold okN;unfold In64 at *
 constructor <;> · rw[Bool.eq_iff_iff];simp only[beq_iff_eq,decide_eq_decide,decide_eq_true_eq];omega
theorem sub_tell{a b:Int}(ha:In64 a)(hb:In64 b):(decide (wrap64 (a - b) < a) == decide (0 < b))=okN (a - b)∧(decide (0≤b) == decide (wrap64 (a - b)≤a))=okN (a - b):=by
 obtain⟨t,h1,h2,h3⟩:=wrap_cases (a - b);rw[h1]at h2 ⊢;unfold okN;unfold In64 at *
 constructor <;> · rw[Bool.eq_iff_iff];simp only[beq_iff_eq,decide_eq_decide,decide_eq_true_eq];omega
def atEnd(a b:Int):Bool:=a == -9223372036854775808 && b == -1
theorem tmod_lt{a b:Int}(hb:In64 b)(h0:¬b=0):In64 (a.tmod b)∧(a.tmod b).natAbs < b.natAbs:=by
 have h:(a.tmod b).natAbs < b.natAbs:=by
  rw[Int.natAbs_tmod];exact Nat.mod_lt _ (by omega)
 unfold In64 at *;exact⟨by omega,h⟩
theorem tdiv_tell{a b:Int}(ha:In64 a)(h0:¬b=0):okN (a.tdiv b) = !atEnd a b:=by
 have h:(a.tdiv b).natAbs=a.natAbs / b.natAbs:=Int.natAbs_tdiv a b
 by_cases hb1:b = -1
 ·subst hb1
  rw[Int.tdiv_neg,Int.tdiv_one];unfold okN atEnd;unfold In64 at ha;rw[Bool.eq_iff_iff]
  simp
  omega
 ·have e:atEnd a b=false:=by unfold atEnd;simp;intro _;exact hb1
  rw[e];rw[show okN (a.tdiv b)=true from ?_];rfl
  rw[okN_iff];unfold In64 at *
  by_cases hb2:b=1
  ·subst hb2;rw[Int.tdiv_one];exact ha
  ·have h2:2≤b.natAbs:=by omega
   have h3:a.natAbs / b.natAbs≤a.natAbs / 2:=Nat.div_le_div_left h2 (by omega)
   omega
theorem mul_tell{a b:Int}(ha:In64 a)(hb:In64 b)(h0:¬b=0):(wrap64 ((wrap64 (a*b)).tdiv b) == a && !atEnd a b)=okN (a*b):=by
 obtain⟨t,h1,h2,h3⟩:=wrap_cases (a*b)
 by_cases hok:In64 (a*b)
 ·rw[okN_iff.2 hok,wrap_id hok,Int.mul_tdiv_cancel _ h0,wrap_id ha]
  have e:atEnd a b=false:=by
   unfold atEnd;rw[Bool.and_eq_false_iff]
   by_cases h:a = -9223372036854775808
   ·right
    simp
    rintro rfl;subst h;unfold In64 at hok
    omega
   ·left
    simpa using h
  rw[e]
  simp
 ·rw[okN_no.2 hok,Bool.and_eq_false_iff]
  by_cases he:atEnd a b=true
  ·right;rw[he];rfl
  ·left
   have he':atEnd a b=false:=by simpa using he
   simp only[beq_eq_false_iff_ne,ne_eq];intro hq;have hd:=tdiv_tell (a:=wrap64 (a*b)) (b:=b) h2 h0
   by_cases hn:atEnd (wrap64 (a*b)) b=true
   ·unfold atEnd at hn
    simp at hn
    obtain⟨hn1,rfl⟩:=hn;rw[hn1]at hq;rw[show((-9223372036854775808:Int).tdiv (-1))=9223372036854775808 by decide]at hq
    rw[show wrap64 9223372036854775808 = -9223372036854775808 by unfold wrap64;decide]at hq
    unfold atEnd at he';rw[←hq]at he'
    simp at he'
   ·have hn':atEnd (wrap64 (a*b)) b=false:=by simpa using hn
    rw[hn']at hd;rw[wrap_id (okN_iff.1 (by rw[hd];rfl))]at hq
    have h4:=Int.mul_tdiv_add_tmod (wrap64 (a*b)) b;have h5:=(tmod_lt (a:=wrap64 (a*b)) hb h0).2;generalize (wrap64 (a*b)).tmod b=r at *;rw[hq,Int.mul_comm b a,h1]at h4;generalize a*b=p at *;unfold In64 at *
    omega
theorem tmod_ok{a b:Int}(hb:In64 b)(h0:¬b=0):okN (a.tmod b)=true:=okN_iff.2 (tmod_lt hb h0).1
theorem neg_tell{b:Int}(hb:In64 b):okN (-1*b)=(b != -9223372036854775808)∧okN (b * -1)=(b != -9223372036854775808):=by
 unfold okN;unfold In64 at hb
 constructor <;> · rw[Bool.eq_iff_iff];simp;omega
end Go.Proofs.YtcicpjgnpcnnmaaGreatDoor.SC
namespace Go.Proofs.YtcicpjgnpcnnmaaGreatDoor.BV
end Go.Proofs.YtcicpjgnpcnnmaaGreatDoor.BV
namespace Go.Proofs.YtcicpjgnpcnnmaaGreatDoor.SC
open BV
open Go.RowKit
theorem ret_bool{a b:Bool}(h:a=b):Ending.returned (.bool a) = .returned (.bool b):=by rw[h]
theorem bad_at{xs:List V}{k:Nat}{r:Int}(h:k < xs.length)(hx:xs[k].chk=r)(hr:¬r=0):allOk xs=false:=by
 unfold allOk;rw[List.all_eq_false];exact⟨xs[k],List.getElem_mem h,by rw[hx];simpa using hr⟩
theorem good_all{xs:List V}{n:Nat}(hn:n=xs.length)(ha:allOk (xs.take n)=true):allOk xs=true:=by
 subst hn
 rwa [List.take_length]at ha
theorem rmay_any(xs:List V)(A:Option Addr)(c:Nat)(w:World)(hr:RowAt w w.heap.size A xs)(hm:xs.length≤9223372036854775807) :
  Calls Tryz.prog 110 #[.slice A xs.length c] w fun e w'=>e = .returned (.bool (allOk xs))∧Below w.heap.size w w':=by
 obtain⟨n,hn⟩:∃ n,n=xs.length:=⟨_,rfl⟩;have HN:=Hi hn;rw[←hn]at hm ⊢;clear hn;have HR:=Hi hr;clear hr;go_enter Tryz.func110,Tryz.ntmps110;go_wp2_with fail
 go_loopw [7] (fun i wr=>∃ k:Nat,k≤n∧i = .int .i64 k∧Below w.heap.size w wr∧Hid (allOk (xs.take k)=true)) (fun i _=>n - (intOf i).toNat)
 case atStart=>exact⟨0,Nat.zero_le _,rfl,Below.refl _ _,rfl⟩
 case round =>
  obtain⟨k,hk,rfl,hb,hall⟩:=hrel
  by_cases hlt:k < n
  ·have hkx:k < xs.length:=by rw[←HN.out];exact hlt
   obtain⟨b,off,hA,hbl,hc⟩:=HR.out (by omega)
   subst hA;obtain⟨c1,c2,c3⟩:=hc k hkx;have d1:=(hb.cell (p:=⟨b,_,none⟩) hbl).trans c1;have d2:=(hb.cell (p:=⟨b,_,none⟩) hbl).trans c2;have d3:=(hb.cell (p:=⟨b,_,none⟩) hbl).trans c3;clear c1 c2 c3 hc;have hcall:=rcheck_any xs[k].k xs[k].i xs[k].s;obtain⟨r,hr⟩:∃ r,r=chkI xs[k].k xs[k].i xs[k].s:=⟨_,rfl⟩;rw[←hr]at hcall;have HX:Hid (xs[k].chk=r):=hr.symm;clear hr;generalize xs[k].k=vk at *;generalize xs[k].i=vi at *;generalize xs[k].s=vs at *
   by_cases h0:r=0
   ·subst h0
    go_wp2_with (go_at_call 55;refine(hcall _).mono ?_;rintro e w1 ⟨rfl,hb1⟩)
    go_roundw
    case rel=>exact⟨k+1,by omega,by go_num,(hb.alloc hb.size _).trans (hb1.mono (by have:=hb.size;simp;omega)),allOk_snoc hkx HX.out hall.out⟩
    case measure=>simp[intOf];omega
   ·have h1:(r != 0)=true:=by simpa using h0
    have H0:=Hi h0;clear h0
    go_wp2_with (go_at_call 55;refine(hcall _).mono ?_;rintro e w1 ⟨rfl,hb1⟩)
    go_ret
    exact⟨ret_bool (bad_at hkx HX.out H0.out).symm,(hb.alloc hb.size _).trans (hb1.mono (by have:=hb.size;simp;omega))⟩
  ·obtain rfl:k=n:=by omega
   go_wp2_with fail
   go_ret
   exact⟨ret_bool (good_all HN.out hall.out).symm,hb⟩
theorem bad1_any(k i:Int)(s:ByteArray)(w:World) :
  Calls Tryz.prog 176 #[.agg #[.int .i64 k,.int .i64 i,.string s]] w fun e w'=>e = .returned (.bool (chkI k i s != 0))∧Below w.heap.size w w':=by
 have HC:=check_any k i s;generalize chkI k i s=r at *;go_enter Tryz.func176,Tryz.ntmps176
 go_wp2_with (go_at_call 177;refine(HC _).mono ?_;rintro e w' ⟨rfl,hb⟩)
 go_ret
 exact⟨rfl,((Below.refl _ _).alloc (Nat.le_refl _) _).trans (hb.mono (by simp))⟩
def IdxPost(xs:List V)(w:World)(e:Ending)(w':World):Prop:=∃ n:Int,e = .returned (.int .i64 n)∧(0≤n↔allOk xs=false)∧Below w.heap.size w w'
theorem idx_any(xs:List V)(A:Option Addr)(c:Nat)(w:World)(hr:RowAt w w.heap.size A xs)(hm:xs.length≤9223372036854775807) :
  Calls Tryz.prog 188 #[.slice A xs.length c,.func (.func 176) #[] #[]] w (IdxPost xs w):=by
 obtain⟨n,hn⟩:∃ n,n=xs.length:=⟨_,rfl⟩;have HN:=Hi hn;rw[←hn]at hm ⊢;clear hn;have HR:=Hi hr;clear hr;go_enter Tryz.func188,Tryz.ntmps188;go_wp2_with fail
 go_loopw [8] (fun i wr=>∃ k:Nat,k≤n∧i = .int .i64 k∧Below w.heap.size w wr∧Hid (allOk (xs.take k)=true)) (fun i _=>n - (intOf i).toNat)
 case atStart=>exact⟨0,Nat.zero_le _,rfl,Below.refl _ _,rfl⟩
 case round =>
  obtain⟨k,hk,rfl,hb,hall⟩:=hrel
  by_cases hlt:k < n
  ·have hkx:k < xs.length:=by rw[←HN.out];exact hlt
   obtain⟨b,off,hA,hbl,hc⟩:=HR.out (by omega)
   subst hA;obtain⟨c1,c2,c3⟩:=hc k hkx;have d1:=(hb.cell (p:=⟨b,_,none⟩) hbl).trans c1;have d2:=(hb.cell (p:=⟨b,_,none⟩) hbl).trans c2;have d3:=(hb.cell (p:=⟨b,_,none⟩) hbl).trans c3;clear c1 c2 c3 hc;have hcall:=bad1_any xs[k].k xs[k].i xs[k].s;obtain⟨r,hr⟩:∃ r,r=chkI xs[k].k xs[k].i xs[k].s:=⟨_,rfl⟩;rw[←hr]at hcall;have HX:Hid (xs[k].chk=r):=hr.symm;clear hr;generalize xs[k].k=vk at *;generalize xs[k].i=vi at *;generalize xs[k].s=vs at *
   by_cases h0:r=0
   ·subst h0
    simp only[bne_self_eq_false]at hcall
    go_wp2_with (go_at_call 176;refine(hcall _).mono ?_;rintro e w1 ⟨rfl,hb1⟩)
    go_roundw
    case rel=>exact⟨k+1,by omega,by go_num,hb.trans (hb1.mono (by have:=hb.size;omega)),allOk_snoc hkx HX.out hall.out⟩
    case measure=>simp[intOf];omega
   ·have h1:(r != 0)=true:=by simpa using h0
    rw[h1]at hcall;have H0:=Hi h0;clear h0
    go_wp2_with (go_at_call 176;refine(hcall _).mono ?_;rintro e w1 ⟨rfl,hb1⟩)
    go_ret
    exact⟨_,rfl,⟨fun _=>bad_at hkx HX.out H0.out,fun _=>by omega⟩,hb.trans (hb1.mono (by have:=hb.size;omega))⟩
  ·obtain rfl:k=n:=by omega
   go_wp2_with fail
   go_ret
   exact⟨_,rfl,⟨fun h=>by omega,fun h=>by rw[good_all HN.out hall.out]at h;cases h⟩,hb⟩
theorem wrong_any(xs:List V)(A:Option Addr)(c:Nat)(w:World)(hr:RowAt w w.heap.size A xs)(hm:xs.length≤9223372036854775807) :
  Calls Tryz.prog 141 #[.slice A xs.length c] w fun e w'=>e = .returned (.bool (!allOk xs))∧Below w.heap.size w w':=by
 have hi:=idx_any xs A c w hr hm
 have h35:Calls Tryz.prog 175 #[.slice A xs.length c,.func (.func 176) #[] #[]] w fun e w'=>e = .returned (.bool (!allOk xs))∧Below w.heap.size w w':=by
  generalize xs.length=l at *;clear hr hm;go_enter Tryz.func175,Tryz.ntmps175
  go_wp2_with (go_at_call 188;refine hi.mono ?_;rintro e w1 ⟨n,rfl,hn,hb⟩;have HN:=Hi hn;clear hn)
  go_ret
  refine⟨ret_bool ?_,hb⟩;have:=HN.out;cases h:allOk xs
  ·rw[h]at this;simp at this ⊢;exact this
  ·rw[h]at this;simp at this ⊢;omega
 generalize xs.length=l at *;clear hr hm hi;go_enter Tryz.func141,Tryz.ntmps141
 go_wp2_with (go_at_call 175;refine h35.mono ?_;rintro e w1 ⟨rfl,hb⟩)
 go_ret
 exact⟨rfl,hb⟩
end Go.Proofs.YtcicpjgnpcnnmaaGreatDoor.SC
namespace Go.Proofs.YtcicpjgnpcnnmaaGreatDoor.BV
end Go.Proofs.YtcicpjgnpcnnmaaGreatDoor.BV
namespace Go.Proofs.YtcicpjgnpcnnmaaGreatDoor.SC
open BV
open Go.RowKit
def fitsK(m k:Int):Bool:=(m == 4 && k == 2) || (m == 8 && k == 3) || (m == 24 && (k == 3 || k == 4))
def okK(ks:List Int)(xs:List V):Bool:=(ks.zip xs).all fun p=>p.2.k == 0 || fitsK p.1 p.2.k
def nulB(xs:List V):Bool:=xs.any fun v=>v.k == 0
def stE(ks:List Int)(xs:List V):Int:=if okK ks xs then 0 else 20
def stN(ks:List Int)(xs:List V):Bool:=okK ks xs && nulB xs
theorem zip_take_right{α β:Type}:∀ (j:Nat)(l:List α)(m:List β),l.zip (m.take j)=(l.zip m).take j
 | 0,_,_=>by simp
 | _+1,[],_=>by simp
 | _+1,_::_,[]=>by simp
 | j+1,a::l,b::m=>by simp[zip_take_right j l m]
theorem okK_snoc{ks:List Int}{xs:List V}{k:Nat}(h1:k < ks.length)(h2:k < xs.length):okK ks (xs.take (k+1))=(okK ks (xs.take k) && (xs[k].k == 0 || fitsK ks[k] xs[k].k)):=by
 unfold okK;rw[zip_take_right,zip_take_right];have hz:k < (ks.zip xs).length:=by simp;omega
 rw[List.take_succ_eq_append_getElem hz,List.all_append]
 simp
theorem okK_no{ks:List Int}{xs:List V}{k:Nat}(h1:k < ks.length)(h2:k < xs.length)(h:(xs[k].k == 0 || fitsK ks[k] xs[k].k)=false):okK ks xs=false:=by
 unfold okK;rw[List.all_eq_false];exact⟨(ks[k],xs[k]),by rw[List.mem_iff_getElem];exact⟨k,by simp;omega,by simp⟩,by simpa using h⟩
theorem nulB_snoc{xs:List V}{k:Nat}(h:k < xs.length):nulB (xs.take (k+1))=(nulB (xs.take k) || xs[k].k == 0):=by
 unfold nulB;rw[List.take_succ_eq_append_getElem h,List.any_append]
 simp
theorem kinds_of{v:V}(h:v.chk=0):v.k=0∨v.k=1∨v.k=2∨v.k=3∨v.k=4:=by
 unfold V.chk chkI mayB at h
 by_cases h0:v.k=0
 ·omega
 by_cases h1:v.k=1
 ·omega
 by_cases h2:v.k=2
 ·omega
 by_cases h3:v.k=3
 ·omega
 by_cases h4:v.k=4
 ·omega
 simp[h0,h1,h2,h3,h4]at h
theorem st_bad{ks:List Int}{xs:List V}(h:okK ks xs=false):Ending.returned (.tuple #[.bool false,.int .i64 20]) = .returned (.tuple #[.bool (stN ks xs),.int .i64 (stE ks xs)]):=by
 unfold stN stE;rw[h];rfl
theorem st_good{ks:List Int}{xs:List V}{n:Nat}{b:Bool}(hn:n=xs.length)(h:okK ks (xs.take n)=true)(h':b=nulB (xs.take n)):Ending.returned (.tuple #[.bool b,.int .i64 0]) = .returned (.tuple #[.bool (stN ks xs),.int .i64 (stE ks xs)]):=by
 subst hn;rw[List.take_length]at h h';unfold stN stE;rw[h,h'];rfl
theorem below_drewN{B:Nat}{w w':World}(h:Below B w w')(n:Nat):Below B w (w'.drewN n):=⟨h.os,h.tape,h.output,h.size,h.block⟩
theorem box_below{w w':World}{o:Obj}(h:Below (w.heap.size+1) (w.alloc o) w'):Below w.heap.size w w':=((Below.refl _ w).alloc (Nat.le_refl _) o).trans (h.mono (by omega))
def KindOk(m:Int):Prop:=m=4∨m=8∨m=24
theorem strict_any(k0 k1 k2:Int)(xs:List V)(A:Option Addr)(c:Nat)(w:World)(hr:RowAt w w.heap.size A xs)(h3:xs.length≤3)(hk:∀ j (h:j < xs.length),KindOk ([k0,k1,k2][j]'(by simp;omega)))(hok:allOk xs=true) :
  Calls Tryz.prog 142 #[.agg #[.int .u64 k0,.int .u64 k1,.int .u64 k2],.slice A xs.length c] w fun e w'=>e = .returned (.tuple #[.bool (stN [k0,k1,k2] xs),.int .i64 (stE [k0,k1,k2] xs)])∧Below w.heap.size w w':=by
 obtain⟨n,hn⟩:∃ n,n=xs.length:=⟨_,rfl⟩;have HN:=Hi hn;rw[←hn]at h3 ⊢;have HK:=Hi hk;have HO:=Hi hok;have HR:=Hi hr;clear hr hn hk hok;go_enter Tryz.func142,Tryz.ntmps142;go_wp2_with fail
 go_loopw [10,4] (fun i s wr=>∃ (k:Nat) (b:Bool),k≤n∧i = .int .i64 k∧s = .bool b∧Hid (Below (w.heap.size+1) (w.alloc (.cells #[.int .u64 k0,.int .u64 k1,.int .u64 k2] 160)) wr)∧Hid (okK [k0,k1,k2] (xs.take k)=true∧b=nulB (xs.take k))) (fun i _ _=>n - (intOf i).toNat)
 case atStart=>exact⟨0,false,Nat.zero_le _,rfl,rfl,by have:=Below.refl (w.heap.size+1) (w.alloc (.cells #[.int .u64 k0,.int .u64 k1,.int .u64 k2] 160));exact this,⟨by unfold okK;simp,rfl⟩⟩
 case round =>
  obtain⟨k,b,hk,rfl,rfl,HB,HI⟩:=hrel
  by_cases hlt:k < n
  ·have hkx:k < xs.length:=by rw[←HN.out];exact hlt
   obtain⟨g,off,hA,hbl,hc⟩:=HR.out (by omega)
   subst hA;obtain⟨c1,c2,c3⟩:=hc k hkx;have hm:=HK.out k hkx;have hv:=kinds_of (show xs[k].chk=0 by have:=HO.out;unfold allOk at this;rw[List.all_eq_true]at this;simpa using this _ (List.getElem_mem hkx))
   have hsn:=okK_snoc (ks:=[k0,k1,k2]) (xs:=xs) (k:=k) (by simp;omega) hkx
   have hno:=okK_no (ks:=[k0,k1,k2]) (xs:=xs) (k:=k) (by simp;omega) hkx
   have hnu:=nulB_snoc hkx;have hs1:(w.alloc (.cells #[.int .u64 k0,.int .u64 k1,.int .u64 k2] 160)).heap.size=w.heap.size+1:=by simp
   have ce:∀ o,(w.alloc (.cells #[.int .u64 k0,.int .u64 k1,.int .u64 k2] 160)).cell? ⟨g,o,none⟩=w.cell? ⟨g,o,none⟩:=fun o=>World.cell?_alloc_lt _ _ _ hbl
   have d1:=((HB.out.cell (p:=⟨g,_,none⟩) (by show g < _;omega)).trans (ce _)).trans c1
   have d2:=((HB.out.cell (p:=⟨g,_,none⟩) (by show g < _;omega)).trans (ce _)).trans c2
   have d3:=((HB.out.cell (p:=⟨g,_,none⟩) (by show g < _;omega)).trans (ce _)).trans c3
   have hnb:(w.alloc (.cells #[.int .u64 k0,.int .u64 k1,.int .u64 k2] 160)).heap[w.heap.size]? = some (.cells #[.int .u64 k0,.int .u64 k1,.int .u64 k2] 160 (0,0)):=heap_alloc_new w _
   have d4:wr.cell? ⟨w.heap.size,k,none⟩=some (.int .u64 ([k0,k1,k2][k]'(by simp;omega))):=by
    rw[HB.out.cell (p:=⟨w.heap.size,k,none⟩) (by show w.heap.size < _;omega),Lib.cell_of_heap hnb]
    have:k=0∨k=1∨k=2:=by omega
    rcases this with h | h | h <;> (subst h;rfl)
   have hsz:w.heap.size < wr.heap.size:=by have:=HB.out.size;omega
   clear c1 c2 c3 hc ce hs1 hnb;generalize xs[k].k=vk at *;generalize xs[k].i=vi at *;generalize xs[k].s=vs at *;generalize [k0,k1,k2][k]'(by simp;omega)=m at *
   have HS:=Hi hsn;have HX:=Hi hno;have HU:=Hi hnu;clear hsn hno hnu;rcases hv with rfl | hv
   ·go_wp2_with fail
    go_roundw
    case rel=>exact⟨k+1,true,by omega,by go_num,rfl,(HB.out.alloc (by omega) _),⟨by rw[HS.out,HI.out.1];rfl,by rw[HU.out];simp⟩⟩
    case measure=>simp[intOf];omega
   ·have hv0:(vk == 0)=false:=by simp;omega
    rcases hm with rfl | rfl | rfl <;> rcases hv with rfl | rfl | rfl | rfl
    all_goals
     clear hv0;go_wp2_with fail
     go_quiet (fail)
     go_wp2_with fail
     first
     | (go_ret2;exact⟨st_bad (HX.out (by rfl)),box_below (below_drewN (HB.out.alloc (by omega) _) _)⟩)
     |(go_roundw
       case rel=>exact⟨k+1,b,by omega,by go_num,rfl,(below_drewN (HB.out.alloc (by omega) _) _),⟨by rw[HS.out,HI.out.1];rfl,by rw[HU.out,←HI.out.2];simp⟩⟩
       case measure=>simp[intOf];omega)
  ·obtain rfl:k=n:=by omega
   go_wp2_with fail
   go_ret2
   exact⟨st_good HN.out HI.out.1 HI.out.2,box_below HB.out⟩
end Go.Proofs.YtcicpjgnpcnnmaaGreatDoor.SC
namespace Go.Proofs.YtcicpjgnpcnnmaaGreatDoor.BV
end Go.Proofs.YtcicpjgnpcnnmaaGreatDoor.BV
namespace Go.Proofs.YtcicpjgnpcnnmaaGreatDoor.SC
open BV
open Go.RowKit
structure Fn where
 nm:ByteArray
 lo:Int
 hi:Int
 k0:Int
 k1:Int
 k2:Int
 f:Nat
def Fn.cells(x:Fn):List Value:=[.string x.nm,.int .i64 x.lo,.int .i64 x.hi,.int .u64 x.k0,.int .u64 x.k1,.int .u64 x.k2,.func (.func x.f) #[] #[]]
def fns:List Fn:=[⟨⟨#[99,111,97,108,101,115,99,101]⟩,1,(-1),0,0,0,190⟩,
 ⟨⟨#[110,117,108,108,105,102]⟩,2,2,0,0,0,191⟩,
 ⟨⟨#[97,98,115]⟩,1,1,4,0,0,192⟩,
 ⟨⟨#[115,105,103,110]⟩,1,1,4,0,0,193⟩,
 ⟨⟨#[108,101,110,103,116,104]⟩,1,1,24,0,0,194⟩,
 ⟨⟨#[108,111,119,101,114]⟩,1,1,8,0,0,195⟩,
 ⟨⟨#[117,112,112,101,114]⟩,1,1,8,0,0,196⟩,
 ⟨⟨#[116,114,105,109]⟩,1,1,8,0,0,197⟩,
 ⟨⟨#[115,117,98,115,116,114]⟩,3,3,24,4,4,198⟩,
 ⟨⟨#[105,110,115,116,114]⟩,2,2,8,8,0,199⟩,
 ⟨⟨#[114,101,112,108,97,99,101]⟩,3,3,8,8,8,200⟩]
theorem functions_any(w:World):Calls Tryz.prog 178 #[] w fun e w'=>e = .returned (.slice (some ⟨w.heap.size,0,none⟩) 11 11)∧w'=w.alloc (.cells #[.string ⟨#[99,111,97,108,101,115,99,101]⟩,.int .i64 1,.int .i64 (-1),.int .u64 0,.int .u64 0,.int .u64 0,.func (.func 190) #[] #[],.string ⟨#[110,117,108,108,105,102]⟩,.int .i64 2,.int .i64 2,.int .u64 0,.int .u64 0,.int .u64 0,.func (.func 191) #[] #[],.string ⟨#[97,98,115]⟩,.int .i64 1,.int .i64 1,.int .u64 4,.int .u64 0,.int .u64 0,.func (.func 192) #[] #[],.string ⟨#[115,105,103,110]⟩,.int .i64 1,.int .i64 1,.int .u64 4,.int .u64 0,.int .u64 0,.func (.func 193) #[] #[],.string ⟨#[108,101,110,103,116,104]⟩,.int .i64 1,.int .i64 1,.int .u64 24,.int .u64 0,.int .u64 0,.func (.func 194) #[] #[],.string ⟨#[108,111,119,101,114]⟩,.int .i64 1,.int .i64 1,.int .u64 8,.int .u64 0,.int .u64 0,.func (.func 195) #[] #[],.string ⟨#[117,112,112,101,114]⟩,.int .i64 1,.int .i64 1,.int .u64 8,.int .u64 0,.int .u64 0,.func (.func 196) #[] #[],.string ⟨#[116,114,105,109]⟩,.int .i64 1,.int .i64 1,.int .u64 8,.int .u64 0,.int .u64 0,.func (.func 197) #[] #[],.string ⟨#[115,117,98,115,116,114]⟩,.int .i64 3,.int .i64 3,.int .u64 24,.int .u64 4,.int .u64 4,.func (.func 198) #[] #[],.string ⟨#[105,110,115,116,114]⟩,.int .i64 2,.int .i64 2,.int .u64 8,.int .u64 8,.int .u64 0,.func (.func 199) #[] #[],.string ⟨#[114,101,112,108,97,99,101]⟩,.int .i64 3,.int .i64 3,.int .u64 8,.int .u64 8,.int .u64 8,.func (.func 200) #[] #[]] 163):=by
 go_enter Tryz.func178,Tryz.ntmps178;go_wp2_with fail
 go_ret
 exact⟨rfl,rfl⟩
structure FnsAt(w:World)(b:Nat):Prop where
 lt:b < w.heap.size
 cell:∀ k (h:k < fns.length) j,j < 7→w.cell? ⟨b,k*7+j,none⟩=fns[k].cells[j]?
theorem FnsAt.later{w w':World}{b:Nat}(h:FnsAt w b)(hb:Below w.heap.size w w'):FnsAt w' b :=
 ⟨Nat.lt_of_lt_of_le h.lt hb.size,fun k hk j hj=>(hb.cell (p:=⟨b,_,none⟩) h.lt).trans (h.cell k hk j hj)⟩
theorem fns_cells(k:Nat)(h:k < fns.length)(j:Nat)(hj:j < 7):(#[.string ⟨#[99,111,97,108,101,115,99,101]⟩,.int .i64 1,.int .i64 (-1),.int .u64 0,.int .u64 0,.int .u64 0,.func (.func 190) #[] #[],.string ⟨#[110,117,108,108,105,102]⟩,.int .i64 2,.int .i64 2,.int .u64 0,.int .u64 0,.int .u64 0,.func (.func 191) #[] #[],.string ⟨#[97,98,115]⟩,.int .i64 1,.int .i64 1,.int .u64 4,.int .u64 0,.int .u64 0,.func (.func 192) #[] #[],.string ⟨#[115,105,103,110]⟩,.int .i64 1,.int .i64 1,.int .u64 4,.int .u64 0,.int .u64 0,.func (.func 193) #[] #[],.string ⟨#[108,101,110,103,116,104]⟩,.int .i64 1,.int .i64 1,.int .u64 24,.int .u64 0,.int .u64 0,.func (.func 194) #[] #[],.string ⟨#[108,111,119,101,114]⟩,.int .i64 1,.int .i64 1,.int .u64 8,.int .u64 0,.int .u64 0,.func (.func 195) #[] #[],.string ⟨#[117,112,112,101,114]⟩,.int .i64 1,.int .i64 1,.int .u64 8,.int .u64 0,.int .u64 0,.func (.func 196) #[] #[],.string ⟨#[116,114,105,109]⟩,.int .i64 1,.int .i64 1,.int .u64 8,.int .u64 0,.int .u64 0,.func (.func 197) #[] #[],.string ⟨#[115,117,98,115,116,114]⟩,.int .i64 3,.int .i64 3,.int .u64 24,.int .u64 4,.int .u64 4,.func (.func 198) #[] #[],.string ⟨#[105,110,115,116,114]⟩,.int .i64 2,.int .i64 2,.int .u64 8,.int .u64 8,.int .u64 0,.func (.func 199) #[] #[],.string ⟨#[114,101,112,108,97,99,101]⟩,.int .i64 3,.int .i64 3,.int .u64 8,.int .u64 8,.int .u64 8,.func (.func 200) #[] #[]]:Array Value)[k*7+j]? = fns[k].cells[j]? := by
 have hk:k < 11:=h
 match k,hk,j,hj with
 | 0,_,0,_=>rfl
 | 0,_,1,_=>rfl
 | 0,_,2,_=>rfl
 | 0,_,3,_=>rfl
 | 0,_,4,_=>rfl
 | 0,_,5,_=>rfl
 | 0,_,6,_=>rfl
 | 1,_,0,_=>rfl
 | 1,_,1,_=>rfl
 | 1,_,2,_=>rfl
 | 1,_,3,_=>rfl
 | 1,_,4,_=>rfl
 | 1,_,5,_=>rfl
 | 1,_,6,_=>rfl
 | 2,_,0,_=>rfl
 | 2,_,1,_=>rfl
 | 2,_,2,_=>rfl
 | 2,_,3,_=>rfl
 | 2,_,4,_=>rfl
 | 2,_,5,_=>rfl
 | 2,_,6,_=>rfl
 | 3,_,0,_=>rfl
 | 3,_,1,_=>rfl
 | 3,_,2,_=>rfl
 | 3,_,3,_=>rfl
 | 3,_,4,_=>rfl
 | 3,_,5,_=>rfl
 | 3,_,6,_=>rfl
 | 4,_,0,_=>rfl
 | 4,_,1,_=>rfl
 | 4,_,2,_=>rfl
 | 4,_,3,_=>rfl
 | 4,_,4,_=>rfl
 | 4,_,5,_=>rfl
 | 4,_,6,_=>rfl
 | 5,_,0,_=>rfl
 | 5,_,1,_=>rfl
 | 5,_,2,_=>rfl
 | 5,_,3,_=>rfl
 | 5,_,4,_=>rfl
 | 5,_,5,_=>rfl
 | 5,_,6,_=>rfl
 | 6,_,0,_=>rfl
 | 6,_,1,_=>rfl
 | 6,_,2,_=>rfl
 | 6,_,3,_=>rfl
 | 6,_,4,_=>rfl
 | 6,_,5,_=>rfl
 | 6,_,6,_=>rfl
 | 7,_,0,_=>rfl
 | 7,_,1,_=>rfl
 | 7,_,2,_=>rfl
 | 7,_,3,_=>rfl
 | 7,_,4,_=>rfl
 | 7,_,5,_=>rfl
 | 7,_,6,_=>rfl
 | 8,_,0,_=>rfl
 | 8,_,1,_=>rfl
 | 8,_,2,_=>rfl
 | 8,_,3,_=>rfl
 | 8,_,4,_=>rfl
 | 8,_,5,_=>rfl
 | 8,_,6,_=>rfl
 | 9,_,0,_=>rfl
 | 9,_,1,_=>rfl
 | 9,_,2,_=>rfl
 | 9,_,3,_=>rfl
 | 9,_,4,_=>rfl
 | 9,_,5,_=>rfl
 | 9,_,6,_=>rfl
 | 10,_,0,_=>rfl
 | 10,_,1,_=>rfl
 | 10,_,2,_=>rfl
 | 10,_,3,_=>rfl
 | 10,_,4,_=>rfl
 | 10,_,5,_=>rfl
 | 10,_,6,_=>rfl
theorem fns_made(w:World):FnsAt (w.alloc (.cells #[.string ⟨#[99,111,97,108,101,115,99,101]⟩,.int .i64 1,.int .i64 (-1),.int .u64 0,.int .u64 0,.int .u64 0,.func (.func 190) #[] #[],.string ⟨#[110,117,108,108,105,102]⟩,.int .i64 2,.int .i64 2,.int .u64 0,.int .u64 0,.int .u64 0,.func (.func 191) #[] #[],.string ⟨#[97,98,115]⟩,.int .i64 1,.int .i64 1,.int .u64 4,.int .u64 0,.int .u64 0,.func (.func 192) #[] #[],.string ⟨#[115,105,103,110]⟩,.int .i64 1,.int .i64 1,.int .u64 4,.int .u64 0,.int .u64 0,.func (.func 193) #[] #[],.string ⟨#[108,101,110,103,116,104]⟩,.int .i64 1,.int .i64 1,.int .u64 24,.int .u64 0,.int .u64 0,.func (.func 194) #[] #[],.string ⟨#[108,111,119,101,114]⟩,.int .i64 1,.int .i64 1,.int .u64 8,.int .u64 0,.int .u64 0,.func (.func 195) #[] #[],.string ⟨#[117,112,112,101,114]⟩,.int .i64 1,.int .i64 1,.int .u64 8,.int .u64 0,.int .u64 0,.func (.func 196) #[] #[],.string ⟨#[116,114,105,109]⟩,.int .i64 1,.int .i64 1,.int .u64 8,.int .u64 0,.int .u64 0,.func (.func 197) #[] #[],.string ⟨#[115,117,98,115,116,114]⟩,.int .i64 3,.int .i64 3,.int .u64 24,.int .u64 4,.int .u64 4,.func (.func 198) #[] #[],.string ⟨#[105,110,115,116,114]⟩,.int .i64 2,.int .i64 2,.int .u64 8,.int .u64 8,.int .u64 0,.func (.func 199) #[] #[],.string ⟨#[114,101,112,108,97,99,101]⟩,.int .i64 3,.int .i64 3,.int .u64 8,.int .u64 8,.int .u64 8,.func (.func 200) #[] #[]] 163)) w.heap.size:=by
 have hn:(w.alloc (.cells #[.string ⟨#[99,111,97,108,101,115,99,101]⟩,.int .i64 1,.int .i64 (-1),.int .u64 0,.int .u64 0,.int .u64 0,.func (.func 190) #[] #[],.string ⟨#[110,117,108,108,105,102]⟩,.int .i64 2,.int .i64 2,.int .u64 0,.int .u64 0,.int .u64 0,.func (.func 191) #[] #[],.string ⟨#[97,98,115]⟩,.int .i64 1,.int .i64 1,.int .u64 4,.int .u64 0,.int .u64 0,.func (.func 192) #[] #[],.string ⟨#[115,105,103,110]⟩,.int .i64 1,.int .i64 1,.int .u64 4,.int .u64 0,.int .u64 0,.func (.func 193) #[] #[],.string ⟨#[108,101,110,103,116,104]⟩,.int .i64 1,.int .i64 1,.int .u64 24,.int .u64 0,.int .u64 0,.func (.func 194) #[] #[],.string ⟨#[108,111,119,101,114]⟩,.int .i64 1,.int .i64 1,.int .u64 8,.int .u64 0,.int .u64 0,.func (.func 195) #[] #[],.string ⟨#[117,112,112,101,114]⟩,.int .i64 1,.int .i64 1,.int .u64 8,.int .u64 0,.int .u64 0,.func (.func 196) #[] #[],.string ⟨#[116,114,105,109]⟩,.int .i64 1,.int .i64 1,.int .u64 8,.int .u64 0,.int .u64 0,.func (.func 197) #[] #[],.string ⟨#[115,117,98,115,116,114]⟩,.int .i64 3,.int .i64 3,.int .u64 24,.int .u64 4,.int .u64 4,.func (.func 198) #[] #[],.string ⟨#[105,110,115,116,114]⟩,.int .i64 2,.int .i64 2,.int .u64 8,.int .u64 8,.int .u64 0,.func (.func 199) #[] #[],.string ⟨#[114,101,112,108,97,99,101]⟩,.int .i64 3,.int .i64 3,.int .u64 8,.int .u64 8,.int .u64 8,.func (.func 200) #[] #[]] 163)).heap[w.heap.size]? = some (.cells _ 163 (0,0)):=heap_alloc_new w _;refine⟨by simp[World.size_alloc],fun k hk j hj => ?_⟩
 rw[Lib.cell_of_heap hn];exact fns_cells k hk j hj
theorem functions_at(w:World):Calls Tryz.prog 178 #[] w fun e w'=>e = .returned (.slice (some ⟨w.heap.size,0,none⟩) 11 11)∧Below w.heap.size w w'∧FnsAt w' w.heap.size :=
 (functions_any w).mono fun e w' ⟨he,hw⟩=>⟨he,by rw[hw];exact(Below.refl _ w).alloc (Nat.le_refl _) _,by rw[hw];exact fns_made w⟩
end Go.Proofs.YtcicpjgnpcnnmaaGreatDoor.SC
namespace Go.Proofs.YtcicpjgnpcnnmaaGreatDoor.BV
end Go.Proofs.YtcicpjgnpcnnmaaGreatDoor.BV
namespace Go.Proofs.YtcicpjgnpcnnmaaGreatDoor.SC
open BV
open Go.RowKit
def look(nm:ByteArray):Option Fn:=fns.find? fun f=>f.nm.toList == nm.toList
def fnAgg(x:Fn):Value:= .agg #[.string x.nm,.int .i64 x.lo,.int .i64 x.hi,.int .u64 x.k0,.int .u64 x.k1,.int .u64 x.k2,.func (.func x.f) #[] #[]]
def fnVal:Option Fn→Value
 | some x=>fnAgg x
 | none=> .agg #[.string ⟨#[]⟩,.int .i64 0,.int .i64 0,.int .u64 0,.int .u64 0,.int .u64 0,.nilFunc]
theorem look_at{nm:ByteArray}{k:Nat}(hk:k < fns.length)(h0:∀ j (h:j < fns.length),j < k→(fns[j].nm.toList == nm.toList)=false)(h1:(fns[k].nm.toList == nm.toList)=true):look nm=some fns[k]:=by
 unfold look;rw[List.find?_eq_some_iff_getElem];refine⟨h1,k,hk,rfl,fun j hj => ?_⟩
 rw[h0 j (by omega) hj]
 rfl
theorem look_none{nm:ByteArray}(h0:∀ j (h:j < fns.length),(fns[j].nm.toList == nm.toList)=false):look nm=none:=by
 unfold look;rw[List.find?_eq_none];intro x hx;obtain⟨j,hj,rfl⟩:=List.getElem_of_mem hx;rw[h0 j hj]
 simp
theorem fns_len:fns.length=11:=rfl
def FBox(w:World)(b:Nat):Prop:=w.heap[b]? = some (.cells #[.string ⟨#[]⟩,.int .i64 0,.int .i64 0,.int .u64 0,.int .u64 0,.int .u64 0,.nilFunc] 163 (0,0))
theorem FBox.cells{w:World}{b:Nat}(h:FBox w b):w.cell? ⟨b,0,none⟩=some (.string ⟨#[]⟩)∧w.cell? ⟨b,1,none⟩=some (.int .i64 0)∧w.cell? ⟨b,2,none⟩=some (.int .i64 0)∧w.cell? ⟨b,3,none⟩=some (.int .u64 0)∧w.cell? ⟨b,4,none⟩=some (.int .u64 0)∧w.cell? ⟨b,5,none⟩=some (.int .u64 0)∧w.cell? ⟨b,6,none⟩=some .nilFunc:=by
 unfold FBox at h;refine⟨?_,?_,?_,?_,?_,?_,?_⟩ <;> (rw[Lib.cell_of_heap h];rfl)
theorem FBox.free{w:World}{b:Nat}(h:FBox w b):∀ o,w.frozen? ⟨b,o,none⟩=false:=by
 intro o;unfold FBox at h;unfold World.frozen?
 simp[h]
end Go.Proofs.YtcicpjgnpcnnmaaGreatDoor.SC
namespace Go.Proofs.YtcicpjgnpcnnmaaGreatDoor.BV
end Go.Proofs.YtcicpjgnpcnnmaaGreatDoor.BV
namespace Go.Proofs.YtcicpjgnpcnnmaaGreatDoor.SC
open BV
open Go.RowKit
theorem Below.set7{B:Nat}{a w:World}(h:Below B a w){b:Nat}(hb:B≤b)(x y z u v s t:Value):Below B a (((((((w.setCell ⟨b,0,none⟩ x).setCell ⟨b,1,none⟩ y).setCell ⟨b,2,none⟩ z).setCell ⟨b,3,none⟩ u).setCell ⟨b,4,none⟩ v).setCell ⟨b,5,none⟩ s).setCell ⟨b,6,none⟩ t):=((((((h.setCell hb _).setCell hb _).setCell hb _).setCell hb _).setCell hb _).setCell hb _).setCell hb _
theorem look_ret{nm:ByteArray}{x:Fn}(h:look nm=some x):Ending.returned (.tuple #[.agg #[.string x.nm,.int .i64 x.lo,.int .i64 x.hi,.int .u64 x.k0,.int .u64 x.k1,.int .u64 x.k2,.func (.func x.f) #[] #[]],.bool true]) = .returned (.tuple #[fnVal (look nm),.bool (look nm).isSome]):=by rw[h];rfl
theorem look_ret0{nm:ByteArray}(h:look nm=none):Ending.returned (.tuple #[.agg #[.string ⟨#[]⟩,.int .i64 0,.int .i64 0,.int .u64 0,.int .u64 0,.int .u64 0,.nilFunc],.bool false]) = .returned (.tuple #[fnVal (look nm),.bool (look nm).isSome]):=by rw[h];rfl
theorem find_any(nm:ByteArray)(w:World):Calls Tryz.prog 143 #[.string nm] w fun e w'=>e = .returned (.tuple #[fnVal (look nm),.bool (look nm).isSome])∧Below w.heap.size w w':=by
 have HR1:=Hi (fun x (h:look nm=some x)=>look_ret h)
 have HR0:=Hi (fun(h:look nm=none)=>look_ret0 h)
 have HL:=Hi (fun(k:Nat) (hk:k < fns.length) h0 h1=>look_at (nm:=nm) (k:=k) hk h0 h1)
 have HLN:=Hi (@look_none nm);have HF:=Hi (fun w=>functions_at w)
 generalize look nm=lk at *;generalize fnVal lk=fv at *;generalize lk.isSome=fb at *;go_enter Tryz.func143,Tryz.ntmps143;go_wp2_with fail;refine(HF.out _).mono ?_;rintro e w2 ⟨rfl,hb2,hf2⟩;have HB2:=Hi (((Below.refl _ w).alloc (Nat.le_refl _) _).trans (hb2.mono (by simp)))
 have HFB:=Hi (show FBox w2 w.heap.size from(hb2.block w.heap.size (by simp)).trans (heap_alloc_new w _))
 have HFN:=Hi (show FnsAt w2 (w.heap.size+1) by simpa using hf2)
 have hz2:w.heap.size+1 < w2.heap.size:=HFN.out.lt;clear hb2 hf2;go_wp2_with fail
 go_loopw [8] (fun i wr=>∃ k:Nat,k≤11∧i = .int .i64 k∧Hid (Below w2.heap.size w2 wr)∧Hid (∀ j (h:j < fns.length),j < k→(fns[j].nm.toList == nm.toList)=false)) (fun i _=>11 - (intOf i).toNat)
 case atStart=>exact⟨0,by omega,rfl,Below.refl _ _,fun j _ h=>by omega⟩
 case round =>
  obtain⟨k,hk,rfl,HB,HI⟩:=hrel;have hsz:=HB.out.size;have HFB':=Hi (show FBox wr w.heap.size from(HB.out.block _ (by omega)).trans HFB.out)
  by_cases hlt:k < 11
  ·have hkl:k < fns.length:=hlt
   have hc:=fun j hj=>(HB.out.cell (p:=⟨w.heap.size+1,_,none⟩) hz2).trans (HFN.out.cell k hkl j hj)
   have d0:=hc 0 (by decide)
   have d1:=hc 1 (by decide)
   have d2:=hc 2 (by decide)
   have d3:=hc 3 (by decide)
   have d4:=hc 4 (by decide)
   have d5:=hc 5 (by decide)
   have d6:=hc 6 (by decide)
   simp only[Fn.cells,Nat.add_zero]at d0 d1 d2 d3 d4 d5 d6;have HX:Hid ((fns[k].nm.toList == nm.toList)=true→lk=some fns[k]):=fun h=>HL.out k hkl HI.out h
   have HY:Hid ((fns[k].nm.toList == nm.toList)=false→∀ j (h:j < fns.length),j < k+1→(fns[j].nm.toList == nm.toList)=false):=by
    intro h j hj hjk
    by_cases e:j=k
    ·subst e;exact h
    ·exact HI.out j hj (by omega)
   clear hc;generalize fns[k]=x at *;cases hq:(x.nm.toList == nm.toList)
   ·go_wp2_with fail
    go_roundw
    case rel=>exact⟨k+1,by omega,by go_num,HB.out.alloc hsz _,HY.out hq⟩
    case measure=>simp[intOf];omega
   ·obtain⟨g0,g1,g2,g3,g4,g5,g6⟩:=HFB'.out.cells
    have f0:=HFB'.out.free;have c0:=fun o=>(World.cell?_alloc_lt wr o ⟨w.heap.size,0,none⟩ (by show w.heap.size < _;omega)).trans g0
    have c1:=fun o=>(World.cell?_alloc_lt wr o ⟨w.heap.size,1,none⟩ (by show w.heap.size < _;omega)).trans g1
    have c2:=fun o=>(World.cell?_alloc_lt wr o ⟨w.heap.size,2,none⟩ (by show w.heap.size < _;omega)).trans g2
    have c3:=fun o=>(World.cell?_alloc_lt wr o ⟨w.heap.size,3,none⟩ (by show w.heap.size < _;omega)).trans g3
    have c4:=fun o=>(World.cell?_alloc_lt wr o ⟨w.heap.size,4,none⟩ (by show w.heap.size < _;omega)).trans g4
    have c5:=fun o=>(World.cell?_alloc_lt wr o ⟨w.heap.size,5,none⟩ (by show w.heap.size < _;omega)).trans g5
    have c6:=fun o=>(World.cell?_alloc_lt wr o ⟨w.heap.size,6,none⟩ (by show w.heap.size < _;omega)).trans g6
    have q0:=fun o a=>(show(wr.alloc o).frozen? ⟨w.heap.size,a,none⟩=false from FBox.free (w:=wr.alloc o) ((Below.heap_alloc wr o _ (by omega)).trans HFB'.out) a)
    clear g0 g1 g2 g3 g4 g5 g6 f0;go_wp2_with fail;exact bodyPost_ret (v:= .tuple #[.agg #[.string x.nm,.int .i64 x.lo,.int .i64 x.hi,.int .u64 x.k0,.int .u64 x.k1,.int .u64 x.k2,.func (.func x.f) #[] #[]],.bool true]) (by simp[results,Tryz.results143,go_sem,c0,c1,c2,c3,c4,c5,c6]) rfl ⟨HR1.out x (HX.out hq),Below.set7 ((HB2.out.trans (HB.out.mono (by omega))).alloc (by omega) _) (Nat.le_refl _) _ _ _ _ _ _ _⟩
  ·obtain⟨g0,g1,g2,g3,g4,g5,g6⟩:=HFB'.out.cells
   have f0:=HFB'.out.free;have hge:(11:Int)≤(k:Int):=by omega
   have hd:decide ((k:Int) < 11)=false:=by simp;omega
   go_wp2_with fail;exact bodyPost_ret (v:= .tuple #[.agg #[.string ⟨#[]⟩,.int .i64 0,.int .i64 0,.int .u64 0,.int .u64 0,.int .u64 0,.nilFunc],.bool false]) (by simp[results,Tryz.results143,go_sem,g0,g1,g2,g3,g4,g5,g6]) rfl ⟨HR0.out (HLN.out (fun j h=>HI.out j h (by rw[fns_len]at h;omega))),Below.set7 (HB2.out.trans (HB.out.mono (by omega))) (Nat.le_refl _) _ _ _ _ _ _ _⟩
end Go.Proofs.YtcicpjgnpcnnmaaGreatDoor.SC
namespace Go.Proofs.YtcicpjgnpcnnmaaGreatDoor.BV
end Go.Proofs.YtcicpjgnpcnnmaaGreatDoor.BV
namespace Go.Proofs.YtcicpjgnpcnnmaaGreatDoor.SC
open BV
open Go.RowKit
def takesB(lo hi n:Int):Bool:=decide (lo≤n) && (decide (n≤hi) || decide (hi < 0))
theorem takes_any(x:Fn)(n:Int)(w:World):Calls Tryz.prog 144 #[.agg #[.string x.nm,.int .i64 x.lo,.int .i64 x.hi,.int .u64 x.k0,.int .u64 x.k1,.int .u64 x.k2,.func (.func x.f) #[] #[]],.int .i64 n] w fun e w'=>e = .returned (.bool (takesB x.lo x.hi n))∧Below w.heap.size w w':=by
 unfold takesB
 by_cases h1:x.lo≤n
 ·by_cases h2:n≤x.hi
  ·rw[decide_eq_true h1,decide_eq_true h2]
   go_enter Tryz.func144,Tryz.ntmps144;go_wp2_with fail
   go_ret
   exact⟨rfl,(Below.refl _ w).alloc (Nat.le_refl _) _⟩
  ·by_cases h3:x.hi < 0
   ·rw[decide_eq_true h1,decide_eq_true h3,decide_eq_false h2]
    go_enter Tryz.func144,Tryz.ntmps144;go_wp2_with fail
    go_ret
    exact⟨rfl,(Below.refl _ w).alloc (Nat.le_refl _) _⟩
   ·rw[decide_eq_true h1,decide_eq_false h3,decide_eq_false h2]
    go_enter Tryz.func144,Tryz.ntmps144;go_wp2_with fail
    go_ret
    exact⟨rfl,(Below.refl _ w).alloc (Nat.le_refl _) _⟩
 ·rw[decide_eq_false h1]
  go_enter Tryz.func144,Tryz.ntmps144;go_wp2_with fail
  go_ret
  exact⟨rfl,(Below.refl _ w).alloc (Nat.le_refl _) _⟩
end Go.Proofs.YtcicpjgnpcnnmaaGreatDoor.SC
namespace Go.Proofs.YtcicpjgnpcnnmaaGreatDoor.BV
end Go.Proofs.YtcicpjgnpcnnmaaGreatDoor.BV
namespace Go.Proofs.YtcicpjgnpcnnmaaGreatDoor.SC
open BV
open Go.RowKit
theorem within_any(n:Int)(b:Bool)(w:World):Calls Tryz.prog 186 #[.int .i64 n,.bool b] w fun e w'=>e = .returned (.tuple #[.int .i64 (fitR n b),.int .i64 (fitE b)])∧w=w':=by
 cases b
 all_goals
  go_enter Tryz.func186,Tryz.ntmps186
  go_wp2
  go_ret2
  exact⟨rfl,rfl⟩
theorem atEnd_any(a b:Int)(w:World):Calls Tryz.prog 187 #[.int .i64 a,.int .i64 b] w fun e w'=>e = .returned (.bool (atEnd a b))∧w=w':=by
 unfold atEnd;cases h1:(a == -9223372036854775808)
 ·go_enter Tryz.func187,Tryz.ntmps187
  go_wp2
  go_ret
  exact⟨rfl,rfl⟩
 ·go_enter Tryz.func187,Tryz.ntmps187
  go_wp2
  go_ret
  exact⟨rfl,rfl⟩
theorem add_any(a b:Int)(w:World)(ha:In64 a)(hb:In64 b):Calls Tryz.prog 170 #[.int .i64 a,.int .i64 b] w fun e w'=>e = .returned (.tuple #[.int .i64 (numR 1 a b),.int .i64 (numE 1 a b)])∧w=w':=by
 obtain⟨e1,e2⟩:=num_lo (p:=1) (a:=a) (b:=b) (n:=wrap64 (a+b)) (by omega) (fun h=>wrap_id h)
 have e3:=(add_tell ha hb).1;rw[e1,e2,show numX 1 a b=a+b from rfl,←e3]
 clear e1 e2 e3 ha hb;go_enter Tryz.func170,Tryz.ntmps170
 go_wp2_with (go_at_call 186;refine(within_any _ _ _).mono ?_;rintro e w' ⟨rfl,rfl⟩)
 go_ret2
 exact⟨rfl,rfl⟩
theorem subtract_any(a b:Int)(w:World)(ha:In64 a)(hb:In64 b):Calls Tryz.prog 171 #[.int .i64 a,.int .i64 b] w fun e w'=>e = .returned (.tuple #[.int .i64 (numR 2 a b),.int .i64 (numE 2 a b)])∧w=w':=by
 obtain⟨e1,e2⟩:=num_lo (p:=2) (a:=a) (b:=b) (n:=wrap64 (a - b)) (by omega) (fun h=>wrap_id h)
 have e3:=(sub_tell ha hb).1;rw[e1,e2,show numX 2 a b=a - b from rfl,←e3]
 clear e1 e2 e3 ha hb;go_enter Tryz.func171,Tryz.ntmps171
 go_wp2_with (go_at_call 186;refine(within_any _ _ _).mono ?_;rintro e w' ⟨rfl,rfl⟩)
 go_ret2
 exact⟨rfl,rfl⟩
end Go.Proofs.YtcicpjgnpcnnmaaGreatDoor.SC
namespace Go.Proofs.YtcicpjgnpcnnmaaGreatDoor.BV
end Go.Proofs.YtcicpjgnpcnnmaaGreatDoor.BV
namespace Go.Proofs.YtcicpjgnpcnnmaaGreatDoor.SC
open BV
open Go.RowKit
theorem same_turn{P:Program}{f:FuncId}{args:Array Value}{w:World}{E:Ending}(h:Calls P f args w fun e w'=>e=E∧w=w'):Calls P f args w fun e w'=>e=E∧w'=w :=
 h.mono fun _ _ ⟨a,b⟩=>⟨a,b.symm⟩
theorem multiply_any(a b:Int)(w:World)(ha:In64 a)(hb:In64 b):Calls Tryz.prog 172 #[.int .i64 a,.int .i64 b] w fun e w'=>e = .returned (.tuple #[.int .i64 (numR 3 a b),.int .i64 (numE 3 a b)])∧w=w':=by
 by_cases h0:b=0
 ·subst h0
  obtain⟨e1,e2⟩:=num_lo (p:=3) (a:=a) (b:=0) (n:=0) (by omega) (fun h=>by simp[numX])
  rw[e1,e2,show numX 3 a 0=0 by simp[numX]]
  clear e1 e2 ha hb;go_enter Tryz.func172,Tryz.ntmps172
  go_wp2
  go_ret2
  exact⟨rfl,rfl⟩
 ·obtain⟨e1,e2⟩:=num_lo (p:=3) (a:=a) (b:=b) (n:=wrap64 (a*b)) (by omega) (fun h=>wrap_id h)
  have e3:=mul_tell ha hb h0;have hz:(b == 0)=false:=by simpa using h0
  rw[e1,e2,show numX 3 a b=a*b from rfl,←e3]
  clear e1 e2 e3;have h1:=(wrap_cases (a*b)).choose_spec.2.1;unfold In64 at *;cases h:(wrap64 ((wrap64 (a*b)).tdiv b) == a)
  all_goals
   go_enter Tryz.func172,Tryz.ntmps172
   go_wp2_with (first | (go_at_call 187;refine(atEnd_any _ _ _).mono ?_;rintro e w' ⟨rfl,rfl⟩) | (go_at_call 186;refine(within_any _ _ _).mono ?_;rintro e w' ⟨rfl,rfl⟩))
   go_ret2
   exact⟨rfl,rfl⟩
theorem remain_any(a b:Int)(w:World)(_ha:In64 a)(hb:In64 b):Calls Tryz.prog 174 #[.int .i64 a,.int .i64 b] w fun e w'=>e = .returned (.tuple #[.int .i64 (numR 5 a b),.int .i64 (numE 5 a b)])∧w=w':=by
 by_cases h0:b=0
 ·subst h0
  obtain⟨e1,e2⟩:=num_zero (p:=5) (a:=a) (by omega)
  rw[e1,e2];clear e1 e2 hb;go_enter Tryz.func174,Tryz.ntmps174
  go_wp2
  go_ret2
  exact⟨rfl,rfl⟩
 ·obtain⟨e1,e2⟩:=num_hi (p:=5) (a:=a) (b:=b) (n:=a.tmod b) h0 (fun h=>rfl)
  rw[e1,e2,show numX 5 a b=a.tmod b from rfl,tmod_ok hb h0]
  clear e1 e2;have hz:(b == 0)=false:=by simpa using h0
  have hz':¬b=0:=h0;go_enter Tryz.func174,Tryz.ntmps174
  go_wp2
  go_ret2
  exact⟨rfl,rfl⟩
theorem divide_any(a b:Int)(w:World)(ha:In64 a)(hb:In64 b):Calls Tryz.prog 173 #[.int .i64 a,.int .i64 b] w fun e w'=>e = .returned (.tuple #[.int .i64 (numR 4 a b),.int .i64 (numE 4 a b)])∧∃ n,w'=w.drewN n:=by
 by_cases h0:b=0
 ·subst h0
  obtain⟨e1,e2⟩:=num_zero (p:=4) (a:=a) (by omega)
  rw[e1,e2];clear e1 e2 hb;go_enter Tryz.func173,Tryz.ntmps173
  go_wp2
  go_ret2
  exact⟨rfl,0,rfl⟩
 ·obtain⟨e1,e2⟩:=num_hi (p:=4) (a:=a) (b:=b) (n:=wrap64 (a.tdiv b)) h0 (fun h=>wrap_id h)
  rw[e1,e2,show numX 4 a b=a.tdiv b from rfl,tdiv_tell ha h0]
  clear e1 e2;have hz:(b == 0)=false:=by simpa using h0
  have hw:=IntWalk.i64_left (a.tdiv b);go_enter Tryz.func173,Tryz.ntmps173;go_wp2_with fail
  go_quiet (first | (go_at_call 187;exact Calls.quiet_of_same (same_turn (atEnd_any _ _ _))) | (go_at_call 186;exact Calls.quiet_of_same (same_turn (within_any _ _ _))))
  go_wp2
  go_ret2
  exact⟨rfl,_,rfl⟩
end Go.Proofs.YtcicpjgnpcnnmaaGreatDoor.SC
namespace Go.Proofs.YtcicpjgnpcnnmaaGreatDoor.BV
end Go.Proofs.YtcicpjgnpcnnmaaGreatDoor.BV
namespace Go.Proofs.YtcicpjgnpcnnmaaGreatDoor.SC
open BV
open Go.RowKit
def Drawn(w w':World):Prop:=∃ n,w'=w.drewN n
theorem wrap64_0:wrap64 0=0:=by unfold wrap64;decide
theorem ok0:okN 0=true:=by decide
theorem times_any(a b:Int)(w:World)(ha:In64 a)(hb:In64 b):Calls Tryz.prog 181 #[.int .i64 a,.int .i64 b] w fun e w'=>e = .returned (.tuple #[.int .i64 (wrap64 (a*b)),.bool (okN (a*b))])∧Drawn w w':=by
 by_cases ha0:a=0
 ·subst ha0
  rw[Int.zero_mul,wrap64_0,ok0];clear ha hb;go_enter Tryz.func181,Tryz.ntmps181
  go_wp2
  go_ret2
  exact⟨rfl,0,rfl⟩
 have za:(a == 0)=false:=by simpa using ha0
 by_cases hb0:b=0
 ·subst hb0
  rw[Int.mul_zero,wrap64_0,ok0];clear ha hb ha0;go_enter Tryz.func181,Tryz.ntmps181
  go_wp2
  go_ret2
  exact⟨rfl,0,rfl⟩
 have zb:(b == 0)=false:=by simpa using hb0
 by_cases ha1:a = -1
 ·subst ha1
  rw[(neg_tell hb).1,show(-1:Int)*b = -b by omega]
  clear ha hb ha0 hb0 za;go_enter Tryz.func181,Tryz.ntmps181
  go_wp2
  go_ret2
  exact⟨rfl,0,rfl⟩
 have za1:(a == -1)=false:=by simpa using ha1
 by_cases hb1:b = -1
 ·subst hb1
  rw[(neg_tell ha).2,show a*(-1:Int) = -a by omega]
  clear ha hb ha0 hb0 zb ha1;go_enter Tryz.func181,Tryz.ntmps181
  go_wp2
  go_ret2
  exact⟨rfl,0,rfl⟩
 have zb1:(b == -1)=false:=by simpa using hb1
 have e3:=mul_tell ha hb hb0;rw[show atEnd a b=false by unfold atEnd;rw[zb1,Bool.and_false]]at e3
 simp only[Bool.not_false,Bool.and_true]at e3;rw[←e3];clear e3 ha hb ha0 ha1 hb1;have hw:=IntWalk.i64_left ((wrap64 (a*b)).tdiv b);go_enter Tryz.func181,Tryz.ntmps181;go_wp2_with fail
 go_quiet (fail)
 go_wp2
 go_ret2
 exact⟨rfl,_,rfl⟩
end Go.Proofs.YtcicpjgnpcnnmaaGreatDoor.SC
namespace Go.Proofs.YtcicpjgnpcnnmaaGreatDoor.BV
end Go.Proofs.YtcicpjgnpcnnmaaGreatDoor.BV
namespace Go.Proofs.YtcicpjgnpcnnmaaGreatDoor.SC
open BV
open Go.RowKit
theorem opk_cases(op:ByteArray):(op=⟨#[43]⟩∧opk op=1)∨(op=⟨#[45]⟩∧opk op=2)∨(op=⟨#[42]⟩∧opk op=3)∨(op=⟨#[47]⟩∧opk op=4)∨(op=⟨#[37]⟩∧opk op=5)∨(opk op=0∧(op.toList == [43])=false∧(op.toList == [45])=false∧(op.toList == [42])=false∧(op.toList == [47])=false∧(op.toList == [37])=false):=by
 have key:∀ l:List UInt8,(op.toList == l)=true→op=⟨l.toArray⟩:=by
  intro l h;rw[Lib.toList_data,beq_iff_eq]at h;cases op;simp only[ByteArray.mk.injEq];rw[←h]
 unfold opk
 by_cases h1:(op.toList == [43])=true
 ·exact Or.inl ⟨key _ h1,by rw[if_pos h1]⟩
 by_cases h2:(op.toList == [45])=true
 ·exact Or.inr (Or.inl ⟨key _ h2,by rw[if_neg h1,if_pos h2]⟩)
 by_cases h3:(op.toList == [42])=true
 ·exact Or.inr (Or.inr (Or.inl ⟨key _ h3,by rw[if_neg h1,if_neg h2,if_pos h3]⟩))
 by_cases h4:(op.toList == [47])=true
 ·exact Or.inr (Or.inr (Or.inr (Or.inl ⟨key _ h4,by rw[if_neg h1,if_neg h2,if_neg h3,if_pos h4]⟩)))
 by_cases h5:(op.toList == [37])=true
 ·exact Or.inr (Or.inr (Or.inr (Or.inr (Or.inl ⟨key _ h5,by rw[if_neg h1,if_neg h2,if_neg h3,if_neg h4,if_pos h5]⟩))))
 ·exact Or.inr (Or.inr (Or.inr (Or.inr (Or.inr ⟨by rw[if_neg h1,if_neg h2,if_neg h3,if_neg h4,if_neg h5],by simpa using h1,by simpa using h2,by simpa using h3,by simpa using h4,by simpa using h5⟩))))
theorem op1(w:World):Calls Tryz.prog 140 #[.string ⟨#[43]⟩] w fun e w'=>e = .returned (.func (.func 170) #[] #[])∧w=w':=by
 go_enter Tryz.func140,Tryz.ntmps140
 go_wp2
 go_ret
 exact⟨rfl,rfl⟩
theorem op2(w:World):Calls Tryz.prog 140 #[.string ⟨#[45]⟩] w fun e w'=>e = .returned (.func (.func 171) #[] #[])∧w=w':=by
 go_enter Tryz.func140,Tryz.ntmps140
 go_wp2
 go_ret
 exact⟨rfl,rfl⟩
theorem op3(w:World):Calls Tryz.prog 140 #[.string ⟨#[42]⟩] w fun e w'=>e = .returned (.func (.func 172) #[] #[])∧w=w':=by
 go_enter Tryz.func140,Tryz.ntmps140
 go_wp2
 go_ret
 exact⟨rfl,rfl⟩
theorem op4(w:World):Calls Tryz.prog 140 #[.string ⟨#[47]⟩] w fun e w'=>e = .returned (.func (.func 173) #[] #[])∧w=w':=by
 go_enter Tryz.func140,Tryz.ntmps140
 go_wp2
 go_ret
 exact⟨rfl,rfl⟩
theorem op5(w:World):Calls Tryz.prog 140 #[.string ⟨#[37]⟩] w fun e w'=>e = .returned (.func (.func 174) #[] #[])∧w=w':=by
 go_enter Tryz.func140,Tryz.ntmps140
 go_wp2
 go_ret
 exact⟨rfl,rfl⟩
theorem op0(op:ByteArray)(w:World)(h1:(op.toList == [43])=false)(h2:(op.toList == [45])=false)(h3:(op.toList == [42])=false)(h4:(op.toList == [47])=false)(h5:(op.toList == [37])=false):Calls Tryz.prog 140 #[.string op] w fun e w'=>e = .returned .nilFunc∧w=w':=by
 go_enter Tryz.func140,Tryz.ntmps140
 go_wp2
 go_ret
 exact⟨rfl,rfl⟩
end Go.Proofs.YtcicpjgnpcnnmaaGreatDoor.SC
namespace Go.Proofs.YtcicpjgnpcnnmaaGreatDoor.BV
end Go.Proofs.YtcicpjgnpcnnmaaGreatDoor.BV
namespace Go.Proofs.YtcicpjgnpcnnmaaGreatDoor.SC
open BV
open Go.RowKit
def zV:V:=⟨0,0,⟨#[]⟩⟩
def nV(n:Int):V:=⟨2,n,⟨#[]⟩⟩
theorem number_any(n:Int)(w:World):Calls Tryz.prog 138 #[.int .i64 n] w fun e w'=>e = .returned (.agg #[.int .i64 2,.int .i64 n,.string ⟨#[]⟩])∧Below w.heap.size w w':=by
 go_enter Tryz.func138,Tryz.ntmps138
 go_wp2
 exact bodyPost_ret (v:= .agg #[.int .i64 2,.int .i64 n,.string ⟨#[]⟩]) (by simp[results,Tryz.results138,go_sem]) rfl ⟨rfl,(Below.refl _ w).alloc (Nat.le_refl _) _⟩
def arE(op:ByteArray)(a b:V):Int:=if opk op=0∨allOk [a,b]=false then 1 else if stE [4,4,0] [a,b]=0 then (if nulB [a,b]then 0 else numE (opk op) a.i b.i)else 20
def arV(op:ByteArray)(a b:V):V:=if arE op a b=0∧nulB [a,b]=false then nV (numR (opk op) a.i b.i)else zV
theorem row2_made(w:World)(a b:V):RowAt (w.alloc (.cells #[.int .i64 a.k,.int .i64 a.i,.string a.s,.int .i64 b.k,.int .i64 b.i,.string b.s] 26)) (w.heap.size+1) (some ⟨w.heap.size,0,none⟩) [a,b]:=fun _=>by
 have hn:(w.alloc (.cells #[.int .i64 a.k,.int .i64 a.i,.string a.s,.int .i64 b.k,.int .i64 b.i,.string b.s] 26)).heap[w.heap.size]? = some (.cells _ 26 (0,0)):=heap_alloc_new w _;refine⟨w.heap.size,0,rfl,Nat.lt_succ_self _,fun j hj => ?_⟩
 match j,hj with
 | 0,_=>exact⟨by rw[Lib.cell_of_heap hn];rfl,by rw[Lib.cell_of_heap hn];rfl,by rw[Lib.cell_of_heap hn];rfl⟩
 | 1,_=>exact⟨by rw[Lib.cell_of_heap hn];rfl,by rw[Lib.cell_of_heap hn];rfl,by rw[Lib.cell_of_heap hn];rfl⟩
theorem wrong2_any(a b:V)(w:World)(H:Nat)(hH:w.heap.size=H):Calls Tryz.prog 141 #[.slice (some ⟨H,0,none⟩) 2 2] (w.alloc (.cells #[.int .i64 a.k,.int .i64 a.i,.string a.s,.int .i64 b.k,.int .i64 b.i,.string b.s] 26)) fun e w'=>e = .returned (.bool (!allOk [a,b]))∧Below H w w'∧H+1≤w'.heap.size:=by
 subst hH;refine(wrong_any [a,b] _ 2 _ (by simpa using row2_made w a b) (by simp)).mono ?_
 rintro e w' ⟨rfl,hb⟩;exact⟨rfl,((Below.refl _ w).alloc (Nat.le_refl _) _).trans (hb.mono (by simp)),by have:=hb.size;simpa using this⟩
theorem strict2_any(k0 k1 k2:Int)(a b:V)(w:World)(H:Nat)(hH:w.heap.size=H)(h0:KindOk k0)(h1:KindOk k1)(hok:allOk [a,b]=true):Calls Tryz.prog 142 #[.agg #[.int .u64 k0,.int .u64 k1,.int .u64 k2],.slice (some ⟨H,0,none⟩) 2 2] (w.alloc (.cells #[.int .i64 a.k,.int .i64 a.i,.string a.s,.int .i64 b.k,.int .i64 b.i,.string b.s] 26)) fun e w'=>e = .returned (.tuple #[.bool (stN [k0,k1,k2] [a,b]),.int .i64 (stE [k0,k1,k2] [a,b])])∧Below H w w'∧H+1≤w'.heap.size:=by
 subst hH;refine(strict_any k0 k1 k2 [a,b] _ 2 _ (by simpa using row2_made w a b) (by simp) (fun j hj => ?_) hok).mono ?_
 ·match j,hj with
  | 0,_=>exact h0
  | 1,_=>exact h1
 ·rintro e w' ⟨rfl,hb⟩
  exact⟨rfl,((Below.refl _ w).alloc (Nat.le_refl _) _).trans (hb.mono (by simp)),by have:=hb.size;simpa using this⟩
end Go.Proofs.YtcicpjgnpcnnmaaGreatDoor.SC
namespace Go.Proofs.YtcicpjgnpcnnmaaGreatDoor.BV
end Go.Proofs.YtcicpjgnpcnnmaaGreatDoor.BV
namespace Go.Proofs.YtcicpjgnpcnnmaaGreatDoor.SC
open BV
open Go.RowKit
def VBox(w:World)(b:Nat)(v:V):Prop:=w.heap[b]? = some (.cells #[.int .i64 v.k,.int .i64 v.i,.string v.s] 26 (0,0))
theorem VBox.lt{w:World}{b:Nat}{v:V}(h:VBox w b v):b < w.heap.size:=(Array.getElem?_eq_some_iff.1 h).1
theorem VBox.cells{w:World}{b:Nat}{v:V}(h:VBox w b v):w.cell? ⟨b,0,none⟩=some (.int .i64 v.k)∧w.cell? ⟨b,1,none⟩=some (.int .i64 v.i)∧w.cell? ⟨b,2,none⟩=some (.string v.s) :=
 ⟨by rw[Lib.cell_of_heap h];rfl,by rw[Lib.cell_of_heap h];rfl,by rw[Lib.cell_of_heap h];rfl⟩
theorem VBox.free{w:World}{b:Nat}{v:V}(h:VBox w b v):w.frozen? ⟨b,0,none⟩=false∧w.frozen? ⟨b,1,none⟩=false∧w.frozen? ⟨b,2,none⟩=false :=
 ⟨Lib.frozen_of_heap h 0,Lib.frozen_of_heap h 1,Lib.frozen_of_heap h 2⟩
theorem VBox.later{w w':World}{b:Nat}{v:V}(h:VBox w b v)(hb:Below w.heap.size w w'):VBox w' b v:=(hb.block b h.lt).trans h
theorem VBox.made(w:World)(v:V):VBox (w.alloc (.cells #[.int .i64 v.k,.int .i64 v.i,.string v.s] 26)) w.heap.size v:=heap_alloc_new w _
def VBoxes:List (Nat×V)→World→Prop
 | [],_=>True
 | p::l,W=>VBox W p.1 p.2∧VBoxes l W
theorem VBoxes.later{l:List (Nat×V)}{w w':World}(h:VBoxes l w)(hb:Below w.heap.size w w'):VBoxes l w':=by
 induction l with
 | nil=>trivial
 | cons p l ih=>exact⟨h.1.later hb,ih h.2⟩
theorem VBoxes.drew{l:List (Nat×V)}{w:World}(h:VBoxes l w):VBoxes l w.drew:=h.later ((Below.refl _ w).drew)
structure HV(w:World)(l:List (Nat×V))(W:World):Prop where
 below:Below w.heap.size w W
 boxes:VBoxes l W
theorem HV.nil(w:World):HV w [] w:=⟨Below.refl _ _,trivial⟩
theorem HV.call{w W W2:World}{l:List (Nat×V)}(h:HV w l W)(hb:Below W.heap.size W W2):HV w l W2:=⟨bthen h.below hb,h.boxes.later hb⟩
theorem HV.alloc{w W:World}{l:List (Nat×V)}(h:HV w l W)(o:Obj):HV w l (W.alloc o):=h.call ((Below.refl _ _).alloc (Nat.le_refl _) o)
theorem HV.push{w W:World}{l:List (Nat×V)}(h:HV w l W)(v:V):HV w ((W.heap.size,v)::l) (W.alloc (.cells #[.int .i64 v.k,.int .i64 v.i,.string v.s] 26)) :=
 ⟨(h.alloc _).below,VBox.made W v,(h.alloc _).boxes⟩
theorem HV.pushAt{w W:World}{l:List (Nat×V)}{H:Nat}(hH:W.heap.size=H)(h:HV w l W)(v:V):HV w ((H,v)::l) (W.alloc (.cells #[.int .i64 v.k,.int .i64 v.i,.string v.s] 26)):=by
 subst hH;exact h.push v
theorem HV.drew{w W:World}{l:List (Nat×V)}(h:HV w l W):HV w l W.drew:=⟨h.below.drew,h.boxes.drew⟩
theorem HV.drewN{w W:World}{l:List (Nat×V)}(h:HV w l W)(n:Nat):HV w l (W.drewN n):=h.call (below_drewN (Below.refl _ _) n)
theorem HV.tail{w W:World}{l:List (Nat×V)}{p:Nat×V}(h:HV w (p::l) W):HV w l W:=⟨h.below,h.boxes.2⟩
theorem HV.box{w W:World}{l:List (Nat×V)}{p:Nat×V}(h:HV w (p::l) W):VBox W p.1 p.2:=h.boxes.1
theorem Below.set3{B:Nat}{a w:World}(h:Below B a w){b:Nat}(hb:B≤b)(x y z:Value):Below B a (((w.setCell ⟨b,0,none⟩ x).setCell ⟨b,1,none⟩ y).setCell ⟨b,2,none⟩ z):=((h.setCell hb _).setCell hb _).setCell hb _
theorem run_eql_func_nil(w:World)(fn:Go.Fn)(f c:Array Value):(binOp .eql 154 (.func fn f c) .nilFunc).run Tryz.prog w = .ok (.bool false) w:=by
 have h:∀ d:Nat,(Op.equalIn (d+1) 154 (.func fn f c) .nilFunc).run Tryz.prog w = .ok false w:=fun d=>by
  simp[Op.equalIn,run_underlying Tryz.underlying154]
 simp only[binOp]
 simp[Op.equal,Op.maxDepth,h 9999]
theorem run_eql_nil_nil(w:World):(binOp .eql 154 .nilFunc .nilFunc).run Tryz.prog w = .ok (.bool true) w:=by
 have h:∀ d:Nat,(Op.equalIn (d+1) 154 .nilFunc .nilFunc).run Tryz.prog w = .ok true w:=fun d=>by
  simp[Op.equalIn,run_underlying Tryz.underlying154]
 simp only[binOp]
 simp[Op.equal,Op.maxDepth,h 9999]
theorem bele{w w':World}{H:Nat}(h:Below H w w')(hH:w.heap.size=H):Below w.heap.size w w':=by subst hH;exact h
end Go.Proofs.YtcicpjgnpcnnmaaGreatDoor.SC
