import Derived.Lib.BufferMore
import Derived.Test.YtcicpjgnpcnnmaaGreatDoorQ04
set_option maxHeartbeats 4000000
namespace Go.Proofs.YtcicpjgnpcnnmaaGreatDoor.BV
end Go.Proofs.YtcicpjgnpcnnmaaGreatDoor.BV
namespace Go.Proofs.YtcicpjgnpcnnmaaGreatDoor.LG
open BV
def bi(b:Bool):Int:=if b then 1 else 0
def zV:V:=⟨0,0,⟨#[]⟩⟩
def tV(b:Bool):V:=⟨1,bi b,⟨#[]⟩⟩
def chkA(xs:List V):Int:=if allOk xs then 0 else 1
def _root_.Go.Proofs.YtcicpjgnpcnnmaaGreatDoor.BV.V.isT(v:V):Bool:=v.k == 0 || v.k == 1
def allT(xs:List V):Bool:=xs.all V.isT
def ctL(xs:List V):Int:=if allOk xs then (if allT xs then 0 else 20)else 1
def _root_.Go.Proofs.YtcicpjgnpcnnmaaGreatDoor.BV.V.isB(b:Bool)(v:V):Bool:=v.k == 1 && v.i == bi b
def anyB(b:Bool)(xs:List V):Bool:=xs.any (V.isB b)
def anyN(xs:List V):Bool:=xs.any fun v=>v.k == 0
def decV(strong:Bool)(xs:List V):V:=if ctL xs=0 then (if anyB strong xs then tV strong else if anyN xs then zV else tV (!strong))else zV
theorem take_snoc{α:Type}{xs:List α}{k:Nat}(h:k < xs.length):xs.take (k+1)=xs.take k ++ [xs[k]]:=List.take_succ_eq_append_getElem h
theorem allT_snoc{xs:List V}{k:Nat}(h:k < xs.length):allT (xs.take (k+1))=(allT (xs.take k) && xs[k].isT):=by
 unfold allT;rw[take_snoc h,List.all_append];simp
theorem anyB_snoc{b:Bool}{xs:List V}{k:Nat}(h:k < xs.length):anyB b (xs.take (k+1))=(anyB b (xs.take k) || xs[k].isB b):=by
 unfold anyB;rw[take_snoc h,List.any_append];simp
theorem anyN_snoc{xs:List V}{k:Nat}(h:k < xs.length):anyN (xs.take (k+1))=(anyN (xs.take k) || xs[k].k == 0):=by
 unfold anyN;rw[take_snoc h,List.any_append];simp
theorem allT_no{xs:List V}{k:Nat}(h:k < xs.length)(h0:xs[k].isT=false):allT xs=false:=by
 unfold allT;rw[List.all_eq_false];exact⟨xs[k],List.getElem_mem h,by simp[h0]⟩
theorem anyB_yes{b:Bool}{xs:List V}{k:Nat}(h:k < xs.length)(h0:xs[k].isB b=true):anyB b xs=true:=by
 unfold anyB;rw[List.any_eq_true];exact⟨xs[k],List.getElem_mem h,h0⟩
theorem allOk_get{xs:List V}(h:allOk xs=true){k:Nat}(hk:k < xs.length):mayB xs[k].k xs[k].i xs[k].s=true:=by
 unfold allOk at h;have:=List.all_eq_true.1 h xs[k] (List.getElem_mem hk);simp only[V.chk,chkI]at this
 split at this <;> simp_all
theorem emp_iff{s:ByteArray}:emp s=true↔s=⟨#[]⟩:=by
 unfold emp;rw[Lib.toList_data,List.isEmpty_iff]
 constructor
 ·intro h
  cases s
  simp at h
  rw[h]
 ·rintro rfl;rfl
theorem isB_iff{v:V}{b:Bool}(h:mayB v.k v.i v.s=true):v.isB b=true↔v=tV b:=by
 constructor
 ·intro hb
  simp only[V.isB,Bool.and_eq_true,beq_iff_eq]at hb;obtain⟨h1,h2⟩:=hb;unfold mayB at h;rw[h1]at h
  simp at h
  exact V.ext h1 h2 (emp_iff.1 h.2)
 ·rintro rfl
  simp[V.isB,tV]
theorem null_iff{v:V}(h:mayB v.k v.i v.s=true):v.k=0↔v=zV:=by
 constructor
 ·intro hb
  unfold mayB at h;rw[hb]at h
  simp at h
  exact V.ext hb h.1 (emp_iff.1 h.2)
 ·rintro rfl;rfl
theorem isB_one{v:V}{b:Bool}(h:mayB v.k v.i v.s=true)(ht:v.k=1):v.isB (!b) = !v.isB b:=by
 unfold mayB at h;rw[ht]at h
 simp at h
 unfold V.isB bi;rcases h.1 with e | e <;> cases b <;> simp[ht,e]
end Go.Proofs.YtcicpjgnpcnnmaaGreatDoor.LG
namespace Go.Proofs.YtcicpjgnpcnnmaaGreatDoor.BV
end Go.Proofs.YtcicpjgnpcnnmaaGreatDoor.BV
namespace Go.Proofs.YtcicpjgnpcnnmaaGreatDoor.LG
open BV
open Go.RowKit
theorem truth_any(b:Bool)(w:World):Calls Tryz.prog 62 #[.bool b] w fun e w'=>e = .returned (.agg #[.int .i64 1,.int .i64 (bi b),.string ⟨#[]⟩])∧Below w.heap.size w w':=by
 cases b
 ·go_enter Tryz.func62,Tryz.ntmps62
  go_wp2
  exact bodyPost_ret (v:= .agg #[.int .i64 1,.int .i64 0,.string ⟨#[]⟩]) (by simp[results,Tryz.results62,go_sem]) rfl ⟨rfl,((Below.refl _ w).alloc (Nat.le_refl _) _)⟩
 ·go_enter Tryz.func62,Tryz.ntmps62
  go_wp2
  exact bodyPost_ret (v:= .agg #[.int .i64 1,.int .i64 1,.string ⟨#[]⟩]) (by simp[results,Tryz.results62,go_sem]) rfl ⟨rfl,((Below.refl _ w).alloc (Nat.le_refl _) _)⟩
theorem bool1_any(b:Bool)(w:World):Calls Tryz.prog 70 #[.bool b] w fun e w'=>e = .returned (.agg #[.int .i64 1,.int .i64 (bi b),.string ⟨#[]⟩])∧Below w.heap.size w w':=by
 cases b
 ·go_enter Tryz.func70,Tryz.ntmps70
  go_wp2
  exact bodyPost_ret (v:= .agg #[.int .i64 1,.int .i64 0,.string ⟨#[]⟩]) (by simp[results,Tryz.results70,go_sem]) rfl ⟨rfl,((Below.refl _ w).alloc (Nat.le_refl _) _)⟩
 ·go_enter Tryz.func70,Tryz.ntmps70
  go_wp2
  exact bodyPost_ret (v:= .agg #[.int .i64 1,.int .i64 1,.string ⟨#[]⟩]) (by simp[results,Tryz.results70,go_sem]) rfl ⟨rfl,((Below.refl _ w).alloc (Nat.le_refl _) _)⟩
theorem chkA_bad{xs:List V}{k:Nat}{r:Int}(h:k < xs.length)(hx:xs[k].chk=r)(hr:¬r=0):r=chkA xs∧allOk xs=false:=by
 have:=chkR_bad h hx hr;unfold chkR at this;unfold chkA;cases ha:allOk xs
 ·rw[ha]at this;simp at this;simp[this]
 ·exfalso
  have:=List.all_eq_true.1 (show xs.all _=true from ha) xs[k] (List.getElem_mem h)
  rw[hx]at this;exact hr (by simpa using this)
theorem chkA_good{xs:List V}{n:Nat}(hn:n=xs.length)(ha:allOk (xs.take n)=true):0=chkA xs∧allOk xs=true:=by
 subst hn;rw[List.take_length]at ha;unfold chkA;rw[ha]
 simp
theorem lcheck_any(xs:List V)(A:Option Addr)(c:Nat)(w:World)(hr:RowAt w w.heap.size A xs)(hm:xs.length≤9223372036854775807) :
  Calls Tryz.prog 148 #[.slice A xs.length c] w fun e w'=>e = .returned (.int .i64 (chkA xs))∧Below w.heap.size w w':=by
 obtain⟨n,hn⟩:∃ n,n=xs.length:=⟨_,rfl⟩;have HN:=Hi hn;rw[←hn]at hm ⊢;clear hn;have HR:=Hi hr;clear hr;go_enter Tryz.func148,Tryz.ntmps148;go_wp2_with fail
 go_loopw [8] (fun i wr=>∃ k:Nat,k≤n∧i = .int .i64 k∧Below w.heap.size w wr∧Hid (allOk (xs.take k)=true)) (fun i _=>n - (intOf i).toNat)
 case atStart=>exact⟨0,Nat.zero_le _,rfl,Below.refl _ _,rfl⟩
 case round =>
  obtain⟨k,hk,rfl,hb,hall⟩:=hrel
  by_cases hlt:k < n
  ·have hkx:k < xs.length:=by rw[←HN.out];exact hlt
   obtain⟨b,off,hA,hbl,hc⟩:=HR.out (by omega)
   subst hA;obtain⟨c1,c2,c3⟩:=hc k hkx;have d1:=(hb.cell (p:=⟨b,_,none⟩) hbl).trans c1;have d2:=(hb.cell (p:=⟨b,_,none⟩) hbl).trans c2;have d3:=(hb.cell (p:=⟨b,_,none⟩) hbl).trans c3;clear c1 c2 c3 hc;have hcall:=check_any xs[k].k xs[k].i xs[k].s;obtain⟨r,hr⟩:∃ r,r=chkI xs[k].k xs[k].i xs[k].s:=⟨_,rfl⟩;rw[←hr]at hcall;have HX:Hid (xs[k].chk=r):=hr.symm;clear hr;generalize xs[k].k=vk at *;generalize xs[k].i=vi at *;generalize xs[k].s=vs at *
   by_cases h0:r=0
   ·subst h0
    go_wp2_with (go_at_call 177;refine(hcall _).mono ?_;rintro e w1 ⟨rfl,hb1⟩)
    go_roundw
    case rel=>exact⟨k+1,by omega,by go_num,(hb.alloc hb.size _).trans (hb1.mono (by have:=hb.size;simp;omega)),allOk_snoc hkx HX.out hall.out⟩
    case measure=>simp[intOf];omega
   ·have h1:(r != 0)=true:=by simpa using h0
    have H0:=Hi h0;clear h0
    go_wp2_with (go_at_call 177;refine(hcall _).mono ?_;rintro e w1 ⟨rfl,hb1⟩)
    go_ret
    exact⟨ret_int (chkA_bad hkx HX.out H0.out).1,(hb.alloc hb.size _).trans (hb1.mono (by have:=hb.size;simp;omega))⟩
  ·obtain rfl:k=n:=by omega
   go_wp2_with fail
   go_ret
   exact⟨ret_int (chkA_good HN.out hall.out).1,hb⟩
theorem ret_bool{a b:Bool}(h:a=b):Ending.returned (.bool a) = .returned (.bool b):=by rw[h]
theorem may_any(xs:List V)(A:Option Addr)(c:Nat)(w:World)(hr:RowAt w w.heap.size A xs)(hm:xs.length≤9223372036854775807) :
  Calls Tryz.prog 121 #[.slice A xs.length c] w fun e w'=>e = .returned (.bool (allOk xs))∧Below w.heap.size w w':=by
 obtain⟨n,hn⟩:∃ n,n=xs.length:=⟨_,rfl⟩;have HN:=Hi hn;rw[←hn]at hm ⊢;clear hn;have HR:=Hi hr;clear hr;go_enter Tryz.func121,Tryz.ntmps121;go_wp2_with fail
 go_loopw [7] (fun i wr=>∃ k:Nat,k≤n∧i = .int .i64 k∧Below w.heap.size w wr∧Hid (allOk (xs.take k)=true)) (fun i _=>n - (intOf i).toNat)
 case atStart=>exact⟨0,Nat.zero_le _,rfl,Below.refl _ _,rfl⟩
 case round =>
  obtain⟨k,hk,rfl,hb,hall⟩:=hrel
  by_cases hlt:k < n
  ·have hkx:k < xs.length:=by rw[←HN.out];exact hlt
   obtain⟨b,off,hA,hbl,hc⟩:=HR.out (by omega)
   subst hA;obtain⟨c1,c2,c3⟩:=hc k hkx;have d1:=(hb.cell (p:=⟨b,_,none⟩) hbl).trans c1;have d2:=(hb.cell (p:=⟨b,_,none⟩) hbl).trans c2;have d3:=(hb.cell (p:=⟨b,_,none⟩) hbl).trans c3;clear c1 c2 c3 hc;have hcall:=rcheck_any xs[k].k xs[k].i xs[k].s;obtain⟨r,hr⟩:∃ r,r=chkI xs[k].k xs[k].i xs[k].s:=⟨_,rfl⟩;rw[←hr]at hcall;have HX:Hid (xs[k].chk=r):=hr.symm;clear hr;generalize xs[k].k=vk at *;generalize xs[k].i=vi at *;generalize xs[k].s=vs at *
   by_cases h0:r=0
   ·subst h0
    go_wp2_with (go_at_call 55;refine(hcall _).mono ?_;rintro e w1 ⟨rfl,hb1⟩)
    go_roundw
    case rel=>exact⟨k+1,by omega,by go_num,(hb.alloc hb.size _).trans (hb1.mono (by have:=hb.size;simp;omega)),allOk_snoc hkx HX.out hall.out⟩
    case measure=>simp[intOf];omega
   ·have h1:(r != 0)=true:=by simpa using h0
    have H0:=Hi h0;clear h0
    go_wp2_with (go_at_call 55;refine(hcall _).mono ?_;rintro e w1 ⟨rfl,hb1⟩)
    go_ret
    exact⟨ret_bool (chkA_bad hkx HX.out H0.out).2.symm,(hb.alloc hb.size _).trans (hb1.mono (by have:=hb.size;simp;omega))⟩
  ·obtain rfl:k=n:=by omega
   go_wp2_with fail
   go_ret
   exact⟨ret_bool (chkA_good HN.out hall.out).2.symm,hb⟩
theorem checkTruths_any(xs:List V)(A:Option Addr)(c:Nat)(w:World)(hr:RowAt w w.heap.size A xs)(hm:xs.length≤9223372036854775807) :
  Calls Tryz.prog 145 #[.slice A xs.length c] w fun e w'=>e = .returned (.int .i64 (ctL xs))∧Below w.heap.size w w':=by
 have hcall:=lcheck_any xs A c w hr hm;unfold ctL;unfold chkA at hcall;cases ha:allOk xs
 ·rw[ha]at hcall
  simp only[Bool.false_eq_true,if_false]at hcall ⊢;generalize xs.length=n at *;clear hr ha;go_enter Tryz.func145,Tryz.ntmps145
  go_wp2_with (go_at_call 148;refine hcall.mono ?_;rintro e w1 ⟨rfl,hb1⟩)
  go_ret
  exact⟨rfl,hb1⟩
 ·rw[ha]at hcall
  simp only[if_true]at hcall ⊢;obtain⟨q,hq⟩:∃ q:Int,q=if allT xs=true then 0 else 20:=⟨_,rfl⟩
  have HQ:=Hi hq;rw[←hq];clear hq;obtain⟨n,hn⟩:∃ n,n=xs.length:=⟨_,rfl⟩;have HN:=Hi hn;rw[←hn]at hm hcall ⊢;clear hn ha;have HR:=Hi hr;clear hr;go_enter Tryz.func145,Tryz.ntmps145
  go_wp2_with (go_at_call 148;refine hcall.mono ?_;rintro e w1 ⟨rfl,hb1⟩)
  clear hcall
  go_loopw [13] (fun i wr=>∃ k:Nat,k≤n∧i = .int .i64 k∧Below w.heap.size w wr∧Hid (allT (xs.take k)=true)) (fun i _=>n - (intOf i).toNat)
  case atStart=>exact⟨0,Nat.zero_le _,rfl,hb1,rfl⟩
  case round =>
   obtain⟨k,hk,rfl,hb,hall⟩:=hrel;clear hb1
   by_cases hlt:k < n
   ·have hkx:k < xs.length:=by rw[←HN.out];exact hlt
    obtain⟨b,off,hA,hbl,hc⟩:=HR.out (by omega)
    subst hA;obtain⟨c1,c2,c3⟩:=hc k hkx;have d1:=(hb.cell (p:=⟨b,_,none⟩) hbl).trans c1;have d2:=(hb.cell (p:=⟨b,_,none⟩) hbl).trans c2;have d3:=(hb.cell (p:=⟨b,_,none⟩) hbl).trans c3;clear c1 c2 c3 hc;have HT:Hid (xs[k].isT=(xs[k].k == 0 || xs[k].k == 1)):=rfl
    generalize xs[k].k=vk at *;generalize xs[k].i=vi at *;generalize xs[k].s=vs at *
    by_cases h0:vk=0
    ·subst h0
     go_wp2_with fail
     go_roundw
     case rel=>exact⟨k+1,by omega,by go_num,hb.alloc hb.size _,by have:=hall.out;have:=HT.out;show _=_;rw[allT_snoc hkx];simp_all⟩
     case measure=>simp[intOf];omega
    ·by_cases h1:vk=1
     ·subst h1
      go_wp2_with fail
      go_roundw
      case rel=>exact⟨k+1,by omega,by go_num,hb.alloc hb.size _,by have:=hall.out;have:=HT.out;show _=_;rw[allT_snoc hkx];simp_all⟩
      case measure=>simp[intOf];omega
     ·have e0:(vk != 0)=true:=by simpa using h0
      have e1:(vk != 1)=true:=by simpa using h1
      have HF:Hid (allT xs=false):=allT_no hkx (by rw[HT.out];simp[h0,h1])
      clear h0 h1;go_wp2_with fail
      go_ret
      exact⟨ret_int (by rw[HQ.out,HF.out];rfl),hb.alloc hb.size _⟩
   ·obtain rfl:k=n:=by omega
    go_wp2_with fail
    go_ret
    exact⟨ret_int (by have:=hall.out;rw[List.take_of_length_le (by rw[←HN.out];omega)]at this;rw[HQ.out,this];rfl),hb⟩
end Go.Proofs.YtcicpjgnpcnnmaaGreatDoor.LG
namespace Go.Proofs.YtcicpjgnpcnnmaaGreatDoor.BV
end Go.Proofs.YtcicpjgnpcnnmaaGreatDoor.BV
namespace Go.Proofs.YtcicpjgnpcnnmaaGreatDoor.LG
open BV
open Go.RowKit
def One(w:World)(g:Nat)(v:V)(w':World):Prop:=w'.cell? ⟨g,0,none⟩=some (.int .i64 v.k)∧w'.cell? ⟨g,1,none⟩=some (.int .i64 v.i)∧w'.cell? ⟨g,2,none⟩=some (.string v.s)∧w.heap.size≤g∧g < w'.heap.size∧Below w.heap.size w w'
theorem One.of{w:World}{g:Nat}{v:V}{w':World}(h:Box w' g v)(hg:w.heap.size≤g)(hb:Below w.heap.size w w'):One w g v w' :=
 ⟨h.1.1,h.1.2.1,h.1.2.2,hg,h.2,hb⟩
theorem One.drew{w:World}{g:Nat}{v:V}{w':World}(h:One w g v w'):One w g v w'.drew :=
 ⟨h.1,h.2.1,h.2.2.1,h.2.2.2.1,h.2.2.2.2.1,h.2.2.2.2.2.drew⟩
theorem One.later{w:World}{g:Nat}{v:V}{w' w2:World}(h:One w g v w')(hb:Below w'.heap.size w' w2):One w g v w2:=by
 obtain⟨h0,h1,h2,h3,h4,h5⟩:=h;exact⟨(hb.cell (p:=⟨g,0,none⟩) h4).trans h0,(hb.cell (p:=⟨g,1,none⟩) h4).trans h1,(hb.cell (p:=⟨g,2,none⟩) h4).trans h2,h3,Nat.lt_of_lt_of_le h4 hb.size,h5.trans (hb.mono (by omega))⟩
def isV(v:V)(b:Bool):Bool:=sameB v.k v.i v.s 1 (bi b) ⟨#[]⟩
theorem isV_iff{v:V}{b:Bool}:isV v b=true↔v=tV b:=by
 unfold isV sameB;simp only[Bool.and_eq_true,beq_iff_eq]
 constructor
 ·rintro⟨h1,h2,h3⟩
  exact V.ext h1 h2 (emp_iff.1 (by unfold emp;rw[h3,Lib.toList_data];rfl))
 ·rintro rfl;exact⟨rfl,rfl,rfl⟩
theorem holds_any(v:V)(w:World):Calls Tryz.prog 37 #[.agg #[.int .i64 v.k,.int .i64 v.i,.string v.s]] w fun e w'=>e = .returned (.bool (isV v true))∧Below w.heap.size w w':=by
 have HB:=Hi (One.of (Box.made w v) (Nat.le_refl _) ((Below.refl _ w).alloc (Nat.le_refl _) (.cells #[.int .i64 v.k,.int .i64 v.i,.string v.s] 26))).drew;have HT:=Hi (truth_any true);have HS:=same_any v.k v.i 1 (bi true) v.s ⟨#[]⟩;rw[show sameB v.k v.i v.s 1 (bi true) ⟨#[]⟩=isV v true from rfl]at HS
 have HS:=Hi HS;generalize isV v true=q at *;have hb4:=Below.refl (w.alloc (.cells #[.int .i64 v.k,.int .i64 v.i,.string v.s] 26)).drew.heap.size (w.alloc (.cells #[.int .i64 v.k,.int .i64 v.i,.string v.s] 26)).drew;go_enter Tryz.func37,Tryz.ntmps37;go_wp2_with fail
 go_region_held3 (fun w'=>w'.cell? ⟨w.heap.size,0,none⟩=some (.int .i64 v.k)∧w'.cell? ⟨w.heap.size,1,none⟩=some (.int .i64 v.i)∧w'.cell? ⟨w.heap.size,2,none⟩=some (.string v.s)∧w.heap.size≤w.heap.size∧w.heap.size < w'.heap.size∧Below w.heap.size w w') (first | exact HB.out | exact One.later (by assumption) hb4) (first | (go_at_call 62;go_must (refine(HT.out _).mono ?_);rintro e w4 ⟨rfl,hb4⟩) | (go_at_call 61;go_must (refine(HS.out _).mono ?_);rintro e w4 ⟨rfl,hb4⟩))
 go_wp2_with fail
 go_ret
 go_light
 refine⟨rfl,?_⟩;have hs:One w w.heap.size v w4:=by assumption
 exact hs.2.2.2.2.2
theorem rholds_any(v:V)(w:World):Calls Tryz.prog 39 #[.agg #[.int .i64 v.k,.int .i64 v.i,.string v.s]] w fun e w'=>e = .returned (.bool (isV v true))∧Below w.heap.size w w':=by
 have HB:=Hi (One.of (Box.made w v) (Nat.le_refl _) ((Below.refl _ w).alloc (Nat.le_refl _) (.cells #[.int .i64 v.k,.int .i64 v.i,.string v.s] 26))).drew;have HT:=Hi (bool1_any true);have HS:=rsame_any v.k v.i 1 (bi true) v.s ⟨#[]⟩;rw[show sameB v.k v.i v.s 1 (bi true) ⟨#[]⟩=isV v true from rfl]at HS
 have HS:=Hi HS;generalize isV v true=q at *;have hb4:=Below.refl (w.alloc (.cells #[.int .i64 v.k,.int .i64 v.i,.string v.s] 26)).drew.heap.size (w.alloc (.cells #[.int .i64 v.k,.int .i64 v.i,.string v.s] 26)).drew;go_enter Tryz.func39,Tryz.ntmps39;go_wp2_with fail
 go_region_held3 (fun w'=>w'.cell? ⟨w.heap.size,0,none⟩=some (.int .i64 v.k)∧w'.cell? ⟨w.heap.size,1,none⟩=some (.int .i64 v.i)∧w'.cell? ⟨w.heap.size,2,none⟩=some (.string v.s)∧w.heap.size≤w.heap.size∧w.heap.size < w'.heap.size∧Below w.heap.size w w') (first | exact HB.out | exact One.later (by assumption) hb4) (first | (go_at_call 70;go_must (refine(HT.out _).mono ?_);rintro e w4 ⟨rfl,hb4⟩) | (go_at_call 69;go_must (refine(HS.out _).mono ?_);rintro e w4 ⟨rfl,hb4⟩))
 go_wp2_with fail
 go_ret
 go_light
 refine⟨rfl,?_⟩;have hs:One w w.heap.size v w4:=by assumption
 exact hs.2.2.2.2.2
end Go.Proofs.YtcicpjgnpcnnmaaGreatDoor.LG
namespace Go.Proofs.YtcicpjgnpcnnmaaGreatDoor.BV
end Go.Proofs.YtcicpjgnpcnnmaaGreatDoor.BV
namespace Go.Proofs.YtcicpjgnpcnnmaaGreatDoor.LG
open BV
open Go.RowKit
def VBox(w:World)(b:Nat)(v:V):Prop:=w.heap[b]? = some (.cells #[.int .i64 v.k,.int .i64 v.i,.string v.s] 26 (0,0))
theorem VBox.lt{w:World}{b:Nat}{v:V}(h:VBox w b v):b < w.heap.size:=(Array.getElem?_eq_some_iff.1 h).1
theorem VBox.made(w:World)(v:V):VBox (w.alloc (.cells #[.int .i64 v.k,.int .i64 v.i,.string v.s] 26)) w.heap.size v:=heap_alloc_new w _
theorem VBox.below{w w':World}{B b:Nat}{v:V}(h:VBox w b v)(hb:Below B w w')(hB:b < B):VBox w' b v:=(hb.block b hB).trans h
theorem VBox.drew{w:World}{b:Nat}{v:V}(h:VBox w b v):VBox w.drew b v:=h
theorem VBox.cells{w:World}{b:Nat}{v:V}(h:VBox w b v):w.cell? ⟨b,0,none⟩=some (.int .i64 v.k)∧w.cell? ⟨b,1,none⟩=some (.int .i64 v.i)∧w.cell? ⟨b,2,none⟩=some (.string v.s) :=
 ⟨by rw[Lib.cell_of_heap h];rfl,by rw[Lib.cell_of_heap h];rfl,by rw[Lib.cell_of_heap h];rfl⟩
theorem VBox.free{w:World}{b:Nat}{v:V}(h:VBox w b v):w.frozen? ⟨b,0,none⟩=false∧w.frozen? ⟨b,1,none⟩=false∧w.frozen? ⟨b,2,none⟩=false :=
 ⟨Lib.frozen_of_heap h 0,Lib.frozen_of_heap h 1,Lib.frozen_of_heap h 2⟩
theorem VBox.set{w:World}{b:Nat}{v:V}(h:VBox w b v)(u:V):VBox (((w.setCell ⟨b,0,none⟩ (.int .i64 u.k)).setCell ⟨b,1,none⟩ (.int .i64 u.i)).setCell ⟨b,2,none⟩ (.string u.s)) b u:=by
 unfold VBox;rw[Lib.heap_setCell_same (Lib.heap_setCell_same (Lib.heap_setCell_same h _) _) _]
 rfl
theorem VBox.other{w:World}{b c o:Nat}{v:V}(h:VBox w b v)(hne:b≠c)(u:Value):VBox (w.setCell ⟨c,o,none⟩ u) b v:=(Below.heap_setCell w _ u b hne).trans h
theorem decide_bad(strong:Bool)(xs:List V)(A:Option Addr)(c:Nat)(w:World)(hr:RowAt w w.heap.size A xs)(hm:xs.length≤9223372036854775807)(hc:¬ctL xs=0) :
  Calls Tryz.prog 146 #[.bool strong,.slice A xs.length c] w fun e w'=>e = .returned (.tuple #[.agg #[.int .i64 0,.int .i64 0,.string ⟨#[]⟩],.int .i64 (ctL xs)])∧Below w.heap.size w w':=by
 have b0:=(Below.refl w.heap.size w).alloc (Nat.le_refl _) (.cells #[.int .i64 0,.int .i64 0,.string ⟨#[]⟩] 26);have hcall:=checkTruths_any xs A c _ (hr.later b0) hm;have hv:=VBox.made w zV;generalize ctL xs=r at *;generalize xs.length=n at *;have h1:(r != 0)=true:=by simpa using hc
 have HV:=Hi hv;clear hc hr hv;go_enter Tryz.func146,Tryz.ntmps146
 go_wp2_with (go_at_call 145;refine hcall.mono ?_;rintro e w1 ⟨rfl,hb1⟩;obtain⟨e0,e1,e2⟩:=(HV.out.below hb1 (by simp)).cells;obtain⟨f0,f1,f2⟩:=(HV.out.below hb1 (by simp)).free;simp only[zV]at e0 e1 e2)
 exact bodyPost_ret (v:= .tuple #[.agg #[.int .i64 0,.int .i64 0,.string ⟨#[]⟩],.int .i64 r]) (by simp[results,Tryz.results146,go_sem,e0,e1,e2]) rfl ⟨rfl,(((b0.trans (hb1.mono (by simp))).setCell (Nat.le_refl _) _).setCell (Nat.le_refl _) _).setCell (Nat.le_refl _) _⟩
theorem One.vbox{w:World}{g:Nat}{v:V}{w':World}(h:One w g v w'){b:Nat}{u:V}(hb:VBox w b u):VBox w' b u:=hb.below h.2.2.2.2.2 hb.lt
def Far(strong:Bool)(ys:List V)(ans:V):Prop:=anyB strong ys=false∧ans=if anyN ys then zV else tV (!strong)
theorem decV_yes{strong:Bool}{xs:List V}{k:Nat}(h:k < xs.length)(hc:ctL xs=0)(hv:isV xs[k] strong=true):decV strong xs=xs[k]:=by
 have hv:=isV_iff.1 hv;unfold decV;rw[if_pos hc,if_pos (anyB_yes h (by rw[hv];cases strong <;> rfl)),hv]
theorem ok_of_ct{xs:List V}(hc:ctL xs=0):allOk xs=true∧allT xs=true:=by
 unfold ctL at hc;cases h:allOk xs <;> cases h':allT xs <;> simp_all
theorem far_null{strong:Bool}{xs:List V}{k:Nat}{ans:V}(h:k < xs.length)(hc:ctL xs=0)(hf:Far strong (xs.take k) ans)(hn:isV xs[k] strong=false)(h0:xs[k].k=0):Far strong (xs.take (k+1)) xs[k]:=by
 have hm:=allOk_get (ok_of_ct hc).1 h;refine⟨?_,?_⟩
 ·rw[anyB_snoc h,hf.1]
  cases hb:xs[k].isB strong
  ·rfl
  ·rw[isV_iff.2 ((isB_iff hm).1 hb)]at hn;simp at hn
 ·rw[anyN_snoc h,h0]
  simp only[beq_self_eq_true,Bool.or_true,if_true];exact(null_iff hm).1 h0
theorem far_weak{strong:Bool}{xs:List V}{k:Nat}{ans:V}(h:k < xs.length)(hc:ctL xs=0)(hf:Far strong (xs.take k) ans)(hn:isV xs[k] strong=false)(h0:¬xs[k].k=0):Far strong (xs.take (k+1)) ans:=by
 have hm:=allOk_get (ok_of_ct hc).1 h;refine⟨?_,?_⟩
 ·rw[anyB_snoc h,hf.1]
  cases hb:xs[k].isB strong
  ·rfl
  ·rw[isV_iff.2 ((isB_iff hm).1 hb)]at hn;simp at hn
 ·rw[anyN_snoc h,show(xs[k].k == 0)=false by simpa using h0,Bool.or_false]
  exact hf.2
theorem far_end{strong:Bool}{xs:List V}{n:Nat}{ans:V}(hn:n=xs.length)(hc:ctL xs=0)(hf:Far strong (xs.take n) ans):decV strong xs=ans:=by
 subst hn;rw[List.take_length]at hf;unfold decV;rw[if_pos hc,hf.1,hf.2]
 rfl
theorem ret_v{r u:V}(h:r=u)(x:Int):Ending.returned (.tuple #[.agg #[.int .i64 u.k,.int .i64 u.i,.string u.s],.int .i64 x]) = .returned (.tuple #[.agg #[.int .i64 r.k,.int .i64 r.i,.string r.s],.int .i64 x]):=by rw[h]
theorem decide_good(strong:Bool)(xs:List V)(A:Option Addr)(c:Nat)(w:World)(hr:RowAt w w.heap.size A xs)(hm:xs.length≤9223372036854775807)(hc:ctL xs=0) :
  Calls Tryz.prog 146 #[.bool strong,.slice A xs.length c] w fun e w'=>e = .returned (.tuple #[.agg #[.int .i64 (decV strong xs).k,.int .i64 (decV strong xs).i,.string (decV strong xs).s],.int .i64 0])∧Below w.heap.size w w':=by
 have b0:=(Below.refl w.heap.size w).alloc (Nat.le_refl _) (.cells #[.int .i64 0,.int .i64 0,.string ⟨#[]⟩] 26);have hcall:=checkTruths_any xs A c _ (hr.later b0) hm;rw[hc]at hcall;have HT:=Hi (fun b=>truth_any b)
 have HV:=Hi (VBox.made w zV);obtain⟨r,hdr⟩:∃ r,r=decV strong xs:=⟨_,rfl⟩;have HD:=Hi hdr;rw[←hdr];obtain⟨n,hn⟩:∃ n,n=xs.length:=⟨_,rfl⟩;have HN:=Hi hn;rw[←hn]at hm hcall ⊢;have HC:=Hi hc;have HR:=Hi hr;clear hc hr hdr hn;go_enter Tryz.func146,Tryz.ntmps146
 go_wp2_with (first | (go_at_call 145;refine hcall.mono ?_;rintro e w1 ⟨rfl,hb1⟩) | (go_at_call 62;refine(HT.out _ _).mono ?_;rintro e w2 ⟨rfl,hb2⟩))
 clear hcall;have B2:=(b0.trans (hb1.mono (by simp))).trans (hb2.mono (by have:=hb1.size;simp at this;omega))
 have h12:w.heap.size+1≤w2.heap.size:=by have:=hb1.size;have:=hb2.size;simp at *;omega
 have HV2:Hid (VBox w2 w.heap.size zV):=(HV.out.below hb1 (by simp)).below hb2 (by have:=hb1.size;simp at *;omega)
 clear b0 hb1 hb2 HV
 go_loopw [21] (fun i wr=>∃ (k:Nat) (ans:V),k≤n∧i = .int .i64 k∧Below w.heap.size w wr∧w2.heap.size < wr.heap.size∧Hid (VBox wr w.heap.size zV)∧Hid (VBox wr w2.heap.size ans)∧Hid (Far strong (xs.take k) ans)) (fun i _=>n - (intOf i).toNat)
 case atStart=>exact⟨0,tV (!strong),Nat.zero_le _,rfl,B2.alloc (by omega) _,by simp,HV2.out.below (Below.alloc (Below.refl w2.heap.size w2) (Nat.le_refl _) _) (by omega),VBox.made w2 (tV (!strong)),⟨rfl,rfl⟩⟩
 case round =>
  obtain⟨k,ans,hk,rfl,hb,hbl2,h4,h7,hfar⟩:=hrel
  by_cases hlt:k < n
  ·have hkx:k < xs.length:=by rw[←HN.out];exact hlt
   obtain⟨b,off,hA,hbl,hc⟩:=HR.out (by omega)
   subst hA;obtain⟨c1,c2,c3⟩:=hc k hkx;have d1:=(hb.cell (p:=⟨b,_,none⟩) hbl).trans c1;have d2:=(hb.cell (p:=⟨b,_,none⟩) hbl).trans c2;have d3:=(hb.cell (p:=⟨b,_,none⟩) hbl).trans c3;clear c1 c2 c3 hc;have HY:Hid (isV xs[k] strong=true→r=xs[k]):=fun h=>HD.out.trans (decV_yes hkx HC.out h)
   have HNu:Hid (isV xs[k] strong=false→xs[k].k=0→Far strong (xs.take (k+1)) xs[k]):=fun h h0=>far_null hkx HC.out hfar.out h h0
   have HWe:Hid (isV xs[k] strong=false→¬xs[k].k=0→Far strong (xs.take (k+1)) ans):=fun h h0=>far_weak hkx HC.out hfar.out h h0
   generalize xs[k]=v at *;have HB:=Hi (One.of (w:=wr) (Box.made wr v) (Nat.le_refl _) ((Below.refl _ wr).alloc (Nat.le_refl _) (.cells #[.int .i64 v.k,.int .i64 v.i,.string v.s] 26))).drew;have HS:=same_any v.k v.i 1 (bi strong) v.s ⟨#[]⟩;rw[show sameB v.k v.i v.s 1 (bi strong) ⟨#[]⟩=isV v strong from rfl]at HS
   have HS:=Hi HS;have hb4:=Below.refl (wr.alloc (.cells #[.int .i64 v.k,.int .i64 v.i,.string v.s] 26)).drew.heap.size (wr.alloc (.cells #[.int .i64 v.k,.int .i64 v.i,.string v.s] 26)).drew;cases q:isV v strong
   ·rw[q]at HS HY HNu HWe
    clear q
    by_cases h0:v.k=0
    ·have e0:(v.k == 0)=true:=by simpa using h0
     have H0:=Hi h0;clear h0;go_wp2_with fail
     go_region_held3 (fun w'=>w'.cell? ⟨wr.heap.size,0,none⟩=some (.int .i64 v.k)∧w'.cell? ⟨wr.heap.size,1,none⟩=some (.int .i64 v.i)∧w'.cell? ⟨wr.heap.size,2,none⟩=some (.string v.s)∧wr.heap.size≤wr.heap.size∧wr.heap.size < w'.heap.size∧Below wr.heap.size wr w') (first | exact HB.out | exact One.later (by assumption) hb4) (first | (go_at_call 62;go_must (refine(HT.out _ _).mono ?_);rintro e w4 ⟨rfl,hb4⟩) | (go_at_call 61;go_must (refine(HS.out _).mono ?_);rintro e w4 ⟨rfl,hb4⟩))
     have hs:One wr wr.heap.size v w4:=by assumption
     obtain⟨f0,f1,f2⟩:=(hs.vbox h7.out).free;obtain⟨g0,g1,g2⟩:=(hs.vbox h7.out).cells;go_wp2_with fail
     go_roundw
     case rel =>
      have hb5:=bthen hb hs.2.2.2.2.2;have hs5:=hs.2.2.2.2.1;exact⟨k+1,v,by omega,by go_num,((hb5.setCell (by show _≤w2.heap.size;omega) _).setCell (by show _≤w2.heap.size;omega) _).setCell (by show _≤w2.heap.size;omega) _,by simp;omega,(((hs.vbox h4.out).other (by omega) _).other (by omega) _).other (by omega) _,(hs.vbox h7.out).set v,HNu.out trivial H0.out⟩
     case measure=>simp[intOf];omega
    ·have e0:(v.k == 0)=false:=by simpa using h0
     have H0:=Hi h0;clear h0;go_wp2_with fail
     go_region_held3 (fun w'=>w'.cell? ⟨wr.heap.size,0,none⟩=some (.int .i64 v.k)∧w'.cell? ⟨wr.heap.size,1,none⟩=some (.int .i64 v.i)∧w'.cell? ⟨wr.heap.size,2,none⟩=some (.string v.s)∧wr.heap.size≤wr.heap.size∧wr.heap.size < w'.heap.size∧Below wr.heap.size wr w') (first | exact HB.out | exact One.later (by assumption) hb4) (first | (go_at_call 62;go_must (refine(HT.out _ _).mono ?_);rintro e w4 ⟨rfl,hb4⟩) | (go_at_call 61;go_must (refine(HS.out _).mono ?_);rintro e w4 ⟨rfl,hb4⟩))
     have hs:One wr wr.heap.size v w4:=by assumption
     go_wp2_with fail
     go_roundw
     case rel =>
      exact⟨k+1,ans,by omega,by go_num,bthen hb hs.2.2.2.2.2,by have:=hs.2.2.2.2.1;omega,hs.vbox h4.out,hs.vbox h7.out,HWe.out trivial H0.out⟩
     case measure=>simp[intOf];omega
   ·rw[q]at HS HY
    clear q;go_wp2_with fail
    go_region_held3 (fun w'=>w'.cell? ⟨wr.heap.size,0,none⟩=some (.int .i64 v.k)∧w'.cell? ⟨wr.heap.size,1,none⟩=some (.int .i64 v.i)∧w'.cell? ⟨wr.heap.size,2,none⟩=some (.string v.s)∧wr.heap.size≤wr.heap.size∧wr.heap.size < w'.heap.size∧Below wr.heap.size wr w') (first | exact HB.out | exact One.later (by assumption) hb4) (first | (go_at_call 62;go_must (refine(HT.out _ _).mono ?_);rintro e w4 ⟨rfl,hb4⟩) | (go_at_call 61;go_must (refine(HS.out _).mono ?_);rintro e w4 ⟨rfl,hb4⟩))
    have hs:One wr wr.heap.size v w4:=by assumption
    obtain⟨f0,f1,f2⟩:=(hs.vbox h4.out).free;obtain⟨g0,g1,g2⟩:=(hs.vbox h4.out).cells;have hb5:=bthen hb hs.2.2.2.2.2;go_wp2_with fail;refine bodyPost_ret (v:= .tuple #[.agg #[.int .i64 v.k,.int .i64 v.i,.string v.s],.int .i64 0]) (by simp[results,Tryz.results146,go_sem,g0,g1,g2]) rfl ⟨ret_v (HY.out trivial) 0,((hb5.setCell (Nat.le_refl _) _).setCell (Nat.le_refl _) _).setCell (Nat.le_refl _) _⟩
  ·obtain rfl:k=n:=by omega
   have HE:Hid (r=ans):=HD.out.trans (far_end HN.out HC.out hfar.out);obtain⟨f0,f1,f2⟩:=h4.out.free;obtain⟨g0,g1,g2⟩:=h4.out.cells;obtain⟨e0,e1,e2⟩:=h7.out.cells;go_wp2_with fail;refine bodyPost_ret (v:= .tuple #[.agg #[.int .i64 ans.k,.int .i64 ans.i,.string ans.s],.int .i64 0]) (by simp[results,Tryz.results146,go_sem,g0,g1,g2]) rfl ⟨ret_v HE.out 0,((hb.setCell (Nat.le_refl _) _).setCell (Nat.le_refl _) _).setCell (Nat.le_refl _) _⟩
theorem ctL_z{xs:List V}(h:¬ctL xs=0)(strong:Bool):decV strong xs=zV:=by unfold decV;rw[if_neg h]
theorem decide_any(strong:Bool)(xs:List V)(A:Option Addr)(c:Nat)(w:World)(hr:RowAt w w.heap.size A xs)(hm:xs.length≤9223372036854775807) :
  Calls Tryz.prog 146 #[.bool strong,.slice A xs.length c] w fun e w'=>e = .returned (.tuple #[.agg #[.int .i64 (decV strong xs).k,.int .i64 (decV strong xs).i,.string (decV strong xs).s],.int .i64 (ctL xs)])∧Below w.heap.size w w':=by
 by_cases h:ctL xs=0
 ·rw[h];exact decide_good strong xs A c w hr hm h
 ·have:=decide_bad strong xs A c w hr hm h
  rw[ctL_z h];exact this
end Go.Proofs.YtcicpjgnpcnnmaaGreatDoor.LG
namespace Go.Proofs.YtcicpjgnpcnnmaaGreatDoor.BV
end Go.Proofs.YtcicpjgnpcnnmaaGreatDoor.BV
namespace Go.Proofs.YtcicpjgnpcnnmaaGreatDoor.LG
open BV
open Go.RowKit
def trN(xs:List V):Bool:=ctL xs == 0 && anyN xs
def trB(b:Bool)(xs:List V):Bool:=ctL xs == 0 && anyB b xs
def Tru(xs:List V)(x y z:Bool):Prop:=allT xs=true∧x=anyN xs∧y=anyB false xs∧z=anyB true xs
theorem tru_null{xs:List V}{k:Nat}{x y z:Bool}(h:k < xs.length)(hf:Tru (xs.take k) x y z)(h0:xs[k].k=0):Tru (xs.take (k+1)) true y z:=by
 obtain⟨h1,h2,h3,h4⟩:=hf;refine⟨?_,?_,?_,?_⟩
 ·rw[allT_snoc h,h1];simp[V.isT,h0]
 ·rw[anyN_snoc h,h0];simp
 ·rw[anyB_snoc h,h3];simp[V.isB,h0]
 ·rw[anyB_snoc h,h4];simp[V.isB,h0]
theorem tru_no{xs:List V}{k:Nat}{x y z:Bool}(h:k < xs.length)(hf:Tru (xs.take k) x y z)(h0:xs[k].k=1)(h5:xs[k].i=0):Tru (xs.take (k+1)) x true z:=by
 obtain⟨h1,h2,h3,h4⟩:=hf;refine⟨?_,?_,?_,?_⟩
 ·rw[allT_snoc h,h1];simp[V.isT,h0]
 ·rw[anyN_snoc h,h0,h2];simp
 ·rw[anyB_snoc h];simp[V.isB,h0,h5,bi]
 ·rw[anyB_snoc h,h4];simp[V.isB,h0,h5,bi]
theorem tru_yes{xs:List V}{k:Nat}{x y z:Bool}(h:k < xs.length)(ha:allOk xs=true)(hf:Tru (xs.take k) x y z)(h0:xs[k].k=1)(h5:¬xs[k].i=0):Tru (xs.take (k+1)) x y true:=by
 obtain⟨h1,h2,h3,h4⟩:=hf;have hm:=allOk_get ha h
 have h6:xs[k].i=1:=by
  unfold mayB at hm;rw[h0]at hm
  simp at hm
  rcases hm.1 with e | e
  ·exact absurd e h5
  ·exact e
 refine⟨?_,?_,?_,?_⟩
 ·rw[allT_snoc h,h1];simp[V.isT,h0]
 ·rw[anyN_snoc h,h0,h2];simp
 ·rw[anyB_snoc h,h3];simp[V.isB,h0,h5,bi]
 ·rw[anyB_snoc h];simp[V.isB,h0,h6,bi]
theorem tru_end{xs:List V}{n:Nat}{x y z:Bool}(hn:n=xs.length)(ha:allOk xs=true)(hf:Tru (xs.take n) x y z):trN xs=x∧trB false xs=y∧trB true xs=z∧ctL xs=0:=by
 subst hn;rw[List.take_length]at hf;obtain⟨h1,h2,h3,h4⟩:=hf;have hc:ctL xs=0:=by unfold ctL;rw[ha,h1];rfl
 unfold trN trB;rw[hc,h2,h3,h4]
 simp
theorem tru_bad{xs:List V}(hc:ctL xs≠0):trN xs=false∧trB false xs=false∧trB true xs=false:=by
 have:(ctL xs == 0)=false:=by simpa using hc
 unfold trN trB;rw[this]
 simp
theorem ret_4{x y z x' y' z':Bool}{r r':Int}(h:x=x'∧y=y'∧z=z')(h':r=r'):Ending.returned (.tuple #[.bool x,.bool y,.bool z,.int .i64 r]) = .returned (.tuple #[.bool x',.bool y',.bool z',.int .i64 r']):=by
 rw[h.1,h.2.1,h.2.2,h']
theorem truths_any(xs:List V)(A:Option Addr)(c:Nat)(w:World)(hr:RowAt w w.heap.size A xs)(hm:xs.length≤9223372036854775807) :
  Calls Tryz.prog 122 #[.slice A xs.length c] w fun e w'=>e = .returned (.tuple #[.bool (trN xs),.bool (trB false xs),.bool (trB true xs),.int .i64 (ctL xs)])∧Below w.heap.size w w':=by
 have hcall:=may_any xs A c w hr hm;have HBad:=Hi (@tru_bad xs);have HCT:Hid (ctL xs=if allOk xs then (if allT xs then 0 else 20)else 1):=rfl
 obtain⟨x0,hx0⟩:∃ x,x=trN xs:=⟨_,rfl⟩;obtain⟨y0,hy0⟩:∃ x,x=trB false xs:=⟨_,rfl⟩;obtain⟨z0,hz0⟩:∃ x,x=trB true xs:=⟨_,rfl⟩;obtain⟨r,hrr⟩:∃ r,r=ctL xs:=⟨_,rfl⟩;rw[←hx0,←hy0,←hz0,←hrr];have HX:=Hi hx0;have HY:=Hi hy0;have HZ:=Hi hz0;have HRr:=Hi hrr;obtain⟨n,hn⟩:∃ n,n=xs.length:=⟨_,rfl⟩;have HN:=Hi hn;rw[←hn]at hm hcall ⊢;have HR:=Hi hr;clear hr hx0 hy0 hz0 hrr hn;cases ha:allOk xs
 ·rw[ha]at hcall
  have HA:=Hi ha;clear ha;have HE:Hid (r=1):=by have:=HRr.out;have h2:=HCT.out;rw[HA.out]at h2;show _=_;rw[this,h2];rfl
  go_enter Tryz.func122,Tryz.ntmps122
  go_wp2_with (go_at_call 121;refine hcall.mono ?_;rintro e w1 ⟨rfl,hb1⟩)
  refine bodyPost_ret (v:= .tuple #[.bool false,.bool false,.bool false,.int .i64 1]) (by simp[results,Tryz.results122,go_sem]) rfl ⟨?_,hb1⟩
  have:=HBad.out (by rw[←HRr.out,HE.out];decide)
  exact ret_4 ⟨by rw[HX.out,this.1],by rw[HY.out,this.2.1],by rw[HZ.out,this.2.2]⟩ HE.out.symm
 ·rw[ha]at hcall
  have HA:=Hi ha;clear ha;go_enter Tryz.func122,Tryz.ntmps122
  go_wp2_with (go_at_call 121;refine hcall.mono ?_;rintro e w1 ⟨rfl,hb1⟩)
  clear hcall
  go_loopw [16,6,7,8] (fun i a b d wr=>∃ (k:Nat) (x y z:Bool),k≤n∧i = .int .i64 k∧a = .bool x∧b = .bool y∧d = .bool z∧Below w.heap.size w wr∧Hid (Tru (xs.take k) x y z)) (fun i _ _ _ _=>n - (intOf i).toNat)
  case atStart=>exact⟨0,false,false,false,Nat.zero_le _,rfl,rfl,rfl,rfl,hb1,⟨rfl,rfl,rfl,rfl⟩⟩
  case round =>
   obtain⟨k,x,y,z,hk,rfl,rfl,rfl,rfl,hb,hfar⟩:=hrel;clear hb1
   by_cases hlt:k < n
   ·have hkx:k < xs.length:=by rw[←HN.out];exact hlt
    obtain⟨b,off,hA,hbl,hc⟩:=HR.out (by omega)
    subst hA;obtain⟨c1,c2,c3⟩:=hc k hkx;have d1:=(hb.cell (p:=⟨b,_,none⟩) hbl).trans c1;have d2:=(hb.cell (p:=⟨b,_,none⟩) hbl).trans c2;have d3:=(hb.cell (p:=⟨b,_,none⟩) hbl).trans c3;clear c1 c2 c3 hc;have H0:Hid (xs[k].k=0→Tru (xs.take (k+1)) true y z):=fun h=>tru_null hkx hfar.out h
    have H1:Hid (xs[k].k=1→xs[k].i=0→Tru (xs.take (k+1)) x true z):=fun h h'=>tru_no hkx hfar.out h h'
    have H2:Hid (xs[k].k=1→¬xs[k].i=0→Tru (xs.take (k+1)) x y true):=fun h h'=>tru_yes hkx HA.out hfar.out h h'
    have H3:Hid (¬xs[k].k=0→¬xs[k].k=1→r=20):=fun h h'=>by
     have h1:=HRr.out;have h2:=HCT.out;rw[HA.out,allT_no hkx (by unfold V.isT;simp[h,h'])]at h2
     rw[h1,h2];rfl
    generalize xs[k].k=vk at *;generalize xs[k].i=vi at *;generalize xs[k].s=vs at *
    by_cases h0:vk=0
    ·subst h0
     go_wp2_with fail
     go_roundw
     case rel=>exact⟨k+1,true,y,z,by omega,by go_num,rfl,rfl,rfl,hb.alloc hb.size _,H0.out rfl⟩
     case measure=>simp[intOf];omega
    ·by_cases h1:vk=1
     ·subst h1
      by_cases h2:vi=0
      ·subst h2
       go_wp2_with fail
       go_roundw
       case rel=>exact⟨k+1,x,true,z,by omega,by go_num,rfl,rfl,rfl,hb.alloc hb.size _,H1.out rfl rfl⟩
       case measure=>simp[intOf];omega
      ·have e2:(vi == 0)=false:=by simpa using h2
       have HH:=Hi h2;clear h2;go_wp2_with fail
       go_roundw
       case rel=>exact⟨k+1,x,y,true,by omega,by go_num,rfl,rfl,rfl,hb.alloc hb.size _,H2.out rfl HH.out⟩
       case measure=>simp[intOf];omega
     ·have e0:(vk == 0)=false:=by simpa using h0
      have e1:(vk != 1)=true:=by simpa using h1
      have HE:=Hi (H3.out h0 h1);clear h0 h1;go_wp2_with fail;refine bodyPost_ret (v:= .tuple #[.bool false,.bool false,.bool false,.int .i64 20]) (by simp[results,Tryz.results122,go_sem]) rfl ⟨?_,hb.alloc hb.size _⟩
      have:=HBad.out (by rw[←HRr.out,HE.out];decide)
      exact ret_4 ⟨by rw[HX.out,this.1],by rw[HY.out,this.2.1],by rw[HZ.out,this.2.2]⟩ HE.out.symm
   ·obtain rfl:k=n:=by omega
    have he:=tru_end HN.out HA.out hfar.out;have HE:=Hi he;clear he;go_wp2_with fail;refine bodyPost_ret (v:= .tuple #[.bool x,.bool y,.bool z,.int .i64 0]) (by simp[results,Tryz.results122,go_sem]) rfl ⟨?_,hb⟩
    obtain⟨g1,g2,g3,g4⟩:=HE.out;exact ret_4 ⟨by rw[HX.out,g1],by rw[HY.out,g2],by rw[HZ.out,g3]⟩ (by rw[HRr.out,g4])
end Go.Proofs.YtcicpjgnpcnnmaaGreatDoor.LG
namespace Go.Proofs.YtcicpjgnpcnnmaaGreatDoor.BV
end Go.Proofs.YtcicpjgnpcnnmaaGreatDoor.BV
namespace Go.Proofs.YtcicpjgnpcnnmaaGreatDoor.LG
open BV
open Go.RowKit
theorem Below.set3{B:Nat}{a w:World}(h:Below B a w){b:Nat}(hb:B≤b)(x y z:Value):Below B a (((w.setCell ⟨b,0,none⟩ x).setCell ⟨b,1,none⟩ y).setCell ⟨b,2,none⟩ z):=((h.setCell hb _).setCell hb _).setCell hb _
theorem _root_.Go.Proofs.YtcicpjgnpcnnmaaGreatDoor.BV.RowAt.of_heap{w:World}{b:Nat}{cs:Array Value}{T:TypeId}{fr:Nat×Nat}{xs:List V}(h:w.heap[b]? = some (.cells cs T fr))(hcs:cs=(BV.flat xs).toArray):RowAt w w.heap.size (some ⟨b,0,none⟩) xs :=
 RowAt.of_flat (fun j u hu=>by
  rw[WideShapes.add_plain,Nat.zero_add,Lib.cell_of_heap h,hcs]
  simpa using hu) (Array.getElem?_eq_some_iff.1 h).1
theorem and_any(xs:List V)(A:Option Addr)(c:Nat)(w:World)(hr:RowAt w w.heap.size A xs)(hm:xs.length≤9223372036854775807) :
  Calls Tryz.prog 97 #[.slice A xs.length c] w fun e w'=>e = .returned (.tuple #[.agg #[.int .i64 (decV false xs).k,.int .i64 (decV false xs).i,.string (decV false xs).s],.int .i64 (ctL xs)])∧Below w.heap.size w w':=by
 have b0:=(Below.refl w.heap.size w).alloc (Nat.le_refl _) (.cells #[.int .i64 0,.int .i64 0,.string ⟨#[]⟩] 26);have hcall:=decide_any false xs A c _ (hr.later b0) hm;have HV:=Hi (VBox.made w zV);generalize decV false xs=r at *;generalize ctL xs=q at *;generalize xs.length=n at *;clear hr;go_enter Tryz.func97,Tryz.ntmps97
 go_wp2_with (go_at_call 146;refine hcall.mono ?_;rintro e w1 ⟨rfl,hb1⟩;obtain⟨e0,e1,e2⟩:=(HV.out.below hb1 (by simp)).cells;obtain⟨f0,f1,f2⟩:=(HV.out.below hb1 (by simp)).free;simp only[zV]at e0 e1 e2)
 exact bodyPost_ret (v:= .tuple #[.agg #[.int .i64 r.k,.int .i64 r.i,.string r.s],.int .i64 q]) (by simp[results,Tryz.results97,go_sem,e0,e1,e2]) rfl ⟨rfl,Below.set3 (b0.trans (hb1.mono (by simp))) (Nat.le_refl _) _ _ _⟩
theorem or_any(xs:List V)(A:Option Addr)(c:Nat)(w:World)(hr:RowAt w w.heap.size A xs)(hm:xs.length≤9223372036854775807) :
  Calls Tryz.prog 99 #[.slice A xs.length c] w fun e w'=>e = .returned (.tuple #[.agg #[.int .i64 (decV true xs).k,.int .i64 (decV true xs).i,.string (decV true xs).s],.int .i64 (ctL xs)])∧Below w.heap.size w w':=by
 have b0:=(Below.refl w.heap.size w).alloc (Nat.le_refl _) (.cells #[.int .i64 0,.int .i64 0,.string ⟨#[]⟩] 26);have hcall:=decide_any true xs A c _ (hr.later b0) hm;have HV:=Hi (VBox.made w zV);generalize decV true xs=r at *;generalize ctL xs=q at *;generalize xs.length=n at *;clear hr;go_enter Tryz.func99,Tryz.ntmps99
 go_wp2_with (go_at_call 146;refine hcall.mono ?_;rintro e w1 ⟨rfl,hb1⟩;obtain⟨e0,e1,e2⟩:=(HV.out.below hb1 (by simp)).cells;obtain⟨f0,f1,f2⟩:=(HV.out.below hb1 (by simp)).free;simp only[zV]at e0 e1 e2)
 exact bodyPost_ret (v:= .tuple #[.agg #[.int .i64 r.k,.int .i64 r.i,.string r.s],.int .i64 q]) (by simp[results,Tryz.results99,go_sem,e0,e1,e2]) rfl ⟨rfl,Below.set3 (b0.trans (hb1.mono (by simp))) (Nat.le_refl _) _ _ _⟩
theorem rand_eq{xs:List V}:(ctL xs=0→(trN xs && !trB false xs)=true→decV false xs=zV)∧(ctL xs=0→(trN xs && !trB false xs)=false→decV false xs=tV (!trB false xs)):=by
 unfold trN trB decV
 constructor
 ·intro h h'
  rw[h]at h' ⊢
  simp at h'
  simp[h']
 ·intro h h'
  rw[h]at h' ⊢
  simp at h' ⊢
  cases h1:anyB false xs <;> cases h2:anyN xs <;> simp_all
theorem ror_eq{xs:List V}:(ctL xs=0→(trN xs && !trB true xs)=true→decV true xs=zV)∧(ctL xs=0→(trN xs && !trB true xs)=false→decV true xs=tV (trB true xs)):=by
 unfold trN trB decV
 constructor
 ·intro h h'
  rw[h]at h' ⊢
  simp at h'
  simp[h']
 ·intro h h'
  rw[h]at h' ⊢
  simp at h' ⊢
  cases h1:anyB true xs <;> cases h2:anyN xs <;> simp_all
theorem ret_vx{r u:V}{x y:Int}(h:r=u)(h':x=y):Ending.returned (.tuple #[.agg #[.int .i64 u.k,.int .i64 u.i,.string u.s],.int .i64 y]) = .returned (.tuple #[.agg #[.int .i64 r.k,.int .i64 r.i,.string r.s],.int .i64 x]):=by rw[h,h']
theorem rand_any(xs:List V)(A:Option Addr)(c:Nat)(w:World)(hr:RowAt w w.heap.size A xs)(hm:xs.length≤9223372036854775807) :
  Calls Tryz.prog 67 #[.slice A xs.length c] w fun e w'=>e = .returned (.tuple #[.agg #[.int .i64 (decV false xs).k,.int .i64 (decV false xs).i,.string (decV false xs).s],.int .i64 (ctL xs)])∧Below w.heap.size w w':=by
 have b0:=(Below.refl w.heap.size w).alloc (Nat.le_refl _) (.cells #[.int .i64 0,.int .i64 0,.string ⟨#[]⟩] 26);have hcall:=truths_any xs A c _ (hr.later b0) hm;have HV:=Hi (VBox.made w zV);have HT:=Hi (fun b=>bool1_any b)
 have H1:=Hi (fun(h:¬ctL xs=0)=>ctL_z h false)
 have H2:=Hi (@rand_eq xs);generalize decV false xs=r at *;generalize trN xs=x at *;generalize trB false xs=y at *;generalize trB true xs=z at *;generalize ctL xs=q at *;generalize xs.length=n at *;clear hr
 by_cases hq:q=0
 ·subst hq
  cases x <;> cases y
  all_goals
   go_enter Tryz.func67,Tryz.ntmps67
   go_wp2_with (first | (go_at_call 122;refine hcall.mono ?_;rintro e w1 ⟨rfl,hb1⟩;obtain⟨e0,e1,e2⟩:=(HV.out.below hb1 (by simp)).cells;obtain⟨f0,f1,f2⟩:=(HV.out.below hb1 (by simp)).free;simp only[zV]at e0 e1 e2) | (go_at_call 70;refine(HT.out _ _).mono ?_;rintro e w2 ⟨rfl,hb2⟩;obtain⟨g0,g1,g2⟩:=((HV.out.below hb1 (by simp)).below hb2 (by have:=hb1.size;simp at this;omega)).cells;obtain⟨i0,i1,i2⟩:=((HV.out.below hb1 (by simp)).below hb2 (by have:=hb1.size;simp at this;omega)).free;simp only[zV]at g0 g1 g2))
  ·exact bodyPost_ret (v:= .tuple #[.agg #[.int .i64 1,.int .i64 (bi true),.string ⟨#[]⟩],.int .i64 0]) (by simp[results,Tryz.results67,go_sem,g0,g1,g2]) rfl ⟨ret_vx (u:=tV true) (H2.out.2 (by simp) (by simp)) rfl,Below.set3 ((b0.trans (hb1.mono (by simp))).trans (hb2.mono (by have:=hb1.size;simp at this;omega))) (Nat.le_refl _) _ _ _⟩
  ·exact bodyPost_ret (v:= .tuple #[.agg #[.int .i64 1,.int .i64 (bi false),.string ⟨#[]⟩],.int .i64 0]) (by simp[results,Tryz.results67,go_sem,g0,g1,g2]) rfl ⟨ret_vx (u:=tV false) (H2.out.2 (by simp) (by simp)) rfl,Below.set3 ((b0.trans (hb1.mono (by simp))).trans (hb2.mono (by have:=hb1.size;simp at this;omega))) (Nat.le_refl _) _ _ _⟩
  ·exact bodyPost_ret (v:= .tuple #[.agg #[.int .i64 0,.int .i64 0,.string ⟨#[]⟩],.int .i64 0]) (by simp[results,Tryz.results67,go_sem,e0,e1,e2]) rfl ⟨ret_vx (u:=zV) (H2.out.1 (by simp) (by simp)) rfl,Below.set3 (b0.trans (hb1.mono (by simp))) (Nat.le_refl _) _ _ _⟩
  ·exact bodyPost_ret (v:= .tuple #[.agg #[.int .i64 1,.int .i64 (bi false),.string ⟨#[]⟩],.int .i64 0]) (by simp[results,Tryz.results67,go_sem,g0,g1,g2]) rfl ⟨ret_vx (u:=tV false) (H2.out.2 (by simp) (by simp)) rfl,Below.set3 ((b0.trans (hb1.mono (by simp))).trans (hb2.mono (by have:=hb1.size;simp at this;omega))) (Nat.le_refl _) _ _ _⟩
 ·have h1:(q != 0)=true:=by simpa using hq
  have HZ:=Hi (H1.out hq);clear hq;go_enter Tryz.func67,Tryz.ntmps67
  go_wp2_with (go_at_call 122;refine hcall.mono ?_;rintro e w1 ⟨rfl,hb1⟩;obtain⟨e0,e1,e2⟩:=(HV.out.below hb1 (by simp)).cells;obtain⟨f0,f1,f2⟩:=(HV.out.below hb1 (by simp)).free;simp only[zV]at e0 e1 e2)
  exact bodyPost_ret (v:= .tuple #[.agg #[.int .i64 0,.int .i64 0,.string ⟨#[]⟩],.int .i64 q]) (by simp[results,Tryz.results67,go_sem,e0,e1,e2]) rfl ⟨ret_vx (u:=zV) HZ.out rfl,Below.set3 (b0.trans (hb1.mono (by simp))) (Nat.le_refl _) _ _ _⟩
theorem ror_any(xs:List V)(A:Option Addr)(c:Nat)(w:World)(hr:RowAt w w.heap.size A xs)(hm:xs.length≤9223372036854775807) :
  Calls Tryz.prog 116 #[.slice A xs.length c] w fun e w'=>e = .returned (.tuple #[.agg #[.int .i64 (decV true xs).k,.int .i64 (decV true xs).i,.string (decV true xs).s],.int .i64 (ctL xs)])∧Below w.heap.size w w':=by
 have b0:=(Below.refl w.heap.size w).alloc (Nat.le_refl _) (.cells #[.int .i64 0,.int .i64 0,.string ⟨#[]⟩] 26);have hcall:=truths_any xs A c _ (hr.later b0) hm;have HV:=Hi (VBox.made w zV);have HT:=Hi (fun b=>bool1_any b)
 have H1:=Hi (fun(h:¬ctL xs=0)=>ctL_z h true)
 have H2:=Hi (@ror_eq xs);generalize decV true xs=r at *;generalize trN xs=x at *;generalize trB true xs=y at *;generalize trB false xs=z at *;generalize ctL xs=q at *;generalize xs.length=n at *;clear hr
 by_cases hq:q=0
 ·subst hq
  cases x <;> cases y
  all_goals
   go_enter Tryz.func116,Tryz.ntmps116
   go_wp2_with (first | (go_at_call 122;refine hcall.mono ?_;rintro e w1 ⟨rfl,hb1⟩;obtain⟨e0,e1,e2⟩:=(HV.out.below hb1 (by simp)).cells;obtain⟨f0,f1,f2⟩:=(HV.out.below hb1 (by simp)).free;simp only[zV]at e0 e1 e2) | (go_at_call 70;refine(HT.out _ _).mono ?_;rintro e w2 ⟨rfl,hb2⟩;obtain⟨g0,g1,g2⟩:=((HV.out.below hb1 (by simp)).below hb2 (by have:=hb1.size;simp at this;omega)).cells;obtain⟨i0,i1,i2⟩:=((HV.out.below hb1 (by simp)).below hb2 (by have:=hb1.size;simp at this;omega)).free;simp only[zV]at g0 g1 g2))
  ·exact bodyPost_ret (v:= .tuple #[.agg #[.int .i64 1,.int .i64 (bi false),.string ⟨#[]⟩],.int .i64 0]) (by simp[results,Tryz.results116,go_sem,g0,g1,g2]) rfl ⟨ret_vx (u:=tV false) (H2.out.2 (by simp) (by simp)) rfl,Below.set3 ((b0.trans (hb1.mono (by simp))).trans (hb2.mono (by have:=hb1.size;simp at this;omega))) (Nat.le_refl _) _ _ _⟩
  ·exact bodyPost_ret (v:= .tuple #[.agg #[.int .i64 1,.int .i64 (bi true),.string ⟨#[]⟩],.int .i64 0]) (by simp[results,Tryz.results116,go_sem,g0,g1,g2]) rfl ⟨ret_vx (u:=tV true) (H2.out.2 (by simp) (by simp)) rfl,Below.set3 ((b0.trans (hb1.mono (by simp))).trans (hb2.mono (by have:=hb1.size;simp at this;omega))) (Nat.le_refl _) _ _ _⟩
  ·exact bodyPost_ret (v:= .tuple #[.agg #[.int .i64 0,.int .i64 0,.string ⟨#[]⟩],.int .i64 0]) (by simp[results,Tryz.results116,go_sem,e0,e1,e2]) rfl ⟨ret_vx (u:=zV) (H2.out.1 (by simp) (by simp)) rfl,Below.set3 (b0.trans (hb1.mono (by simp))) (Nat.le_refl _) _ _ _⟩
  ·exact bodyPost_ret (v:= .tuple #[.agg #[.int .i64 1,.int .i64 (bi true),.string ⟨#[]⟩],.int .i64 0]) (by simp[results,Tryz.results116,go_sem,g0,g1,g2]) rfl ⟨ret_vx (u:=tV true) (H2.out.2 (by simp) (by simp)) rfl,Below.set3 ((b0.trans (hb1.mono (by simp))).trans (hb2.mono (by have:=hb1.size;simp at this;omega))) (Nat.le_refl _) _ _ _⟩
 ·have h1:(q != 0)=true:=by simpa using hq
  have HZ:=Hi (H1.out hq);clear hq;go_enter Tryz.func116,Tryz.ntmps116
  go_wp2_with (go_at_call 122;refine hcall.mono ?_;rintro e w1 ⟨rfl,hb1⟩;obtain⟨e0,e1,e2⟩:=(HV.out.below hb1 (by simp)).cells;obtain⟨f0,f1,f2⟩:=(HV.out.below hb1 (by simp)).free;simp only[zV]at e0 e1 e2)
  exact bodyPost_ret (v:= .tuple #[.agg #[.int .i64 0,.int .i64 0,.string ⟨#[]⟩],.int .i64 q]) (by simp[results,Tryz.results116,go_sem,e0,e1,e2]) rfl ⟨ret_vx (u:=zV) HZ.out rfl,Below.set3 (b0.trans (hb1.mono (by simp))) (Nat.le_refl _) _ _ _⟩
end Go.Proofs.YtcicpjgnpcnnmaaGreatDoor.LG
namespace Go.Proofs.YtcicpjgnpcnnmaaGreatDoor.BV
end Go.Proofs.YtcicpjgnpcnnmaaGreatDoor.BV
namespace Go.Proofs.YtcicpjgnpcnnmaaGreatDoor.LG
open BV
open Go.RowKit
def w1of(w:World)(v:V):World:=(w.alloc (.cells #[.int .i64 v.k,.int .i64 v.i,.string v.s] 26)).alloc (.cells #[.int .i64 0,.int .i64 0,.string ⟨#[]⟩] 26)
def w2of(w:World)(v:V):World:=(w1of w v).alloc (.cells #[.int .i64 v.k,.int .i64 v.i,.string v.s] 26)
theorem w2of_row(w:World)(v:V):RowAt (w2of w v) (w2of w v).heap.size (some ⟨w.heap.size+2,0,none⟩) [v]:=by
 have h:=RowAt.of_heap (xs:=[v]) (heap_alloc_new (w1of w v) (.cells #[.int .i64 v.k,.int .i64 v.i,.string v.s] 26)) rfl;rw[show(w1of w v).heap.size=w.heap.size+2 by simp[w1of]]at h
 exact h
theorem w2of_box(w:World)(v:V):VBox (w2of w v) w.heap.size v∧VBox (w2of w v) (w.heap.size+1) zV∧Below w.heap.size w (w2of w v)∧(w2of w v).heap.size=w.heap.size+3:=by
 have h0:=VBox.made w v;have h1:=VBox.made (w.alloc (.cells #[.int .i64 v.k,.int .i64 v.i,.string v.s] 26)) zV;have b1:=Below.alloc (Below.refl (w.heap.size+1) (w.alloc (.cells #[.int .i64 v.k,.int .i64 v.i,.string v.s] 26))) (by simp) (.cells #[.int .i64 0,.int .i64 0,.string ⟨#[]⟩] 26)
 have b2:=Below.alloc (Below.refl (w.heap.size+2) (w1of w v)) (by simp[w1of]) (.cells #[.int .i64 v.k,.int .i64 v.i,.string v.s] 26)
 refine⟨(h0.below b1 (by omega)).below b2 (by omega),?_,?_,by simp[w2of,w1of]⟩
 ·have:=VBox.below h1 b2 (by simp)
  rwa [show(w.alloc (.cells #[.int .i64 v.k,.int .i64 v.i,.string v.s] 26)).heap.size=w.heap.size+1 by simp]at this
 ·exact(((Below.refl _ w).alloc (Nat.le_refl _) _).trans (b1.mono (by omega))).trans (b2.mono (by omega))
def notV(v:V):V:=if ctL [v]=0 then (if v.k=0 then zV else tV (!isV v true))else zV
theorem ct1{v:V}(h:ctL [v]=0):mayB v.k v.i v.s=true∧v.isT=true:=by
 have h1:=(ok_of_ct h).1;have h2:=(ok_of_ct h).2;exact⟨allOk_get (xs:=[v]) h1 (k:=0) (by simp),by simpa [allT]using h2⟩
theorem notV_null{v:V}(h:ctL [v]=0)(h0:v.k=0):notV v=v:=by
 unfold notV;rw[if_pos h,if_pos h0];exact((null_iff (ct1 h).1).1 h0).symm
theorem notV_some{v:V}(h:ctL [v]=0)(h0:¬v.k=0):notV v=tV (!isV v true):=by
 unfold notV;rw[if_pos h,if_neg h0]
theorem notV_bad{v:V}(h:¬ctL [v]=0):notV v=zV:=by unfold notV;rw[if_neg h]
theorem notV_ref{v:V}(h:ctL [v]=0)(h0:trN [v]=false):notV v=tV (trB false [v]):=by
 have hm:=(ct1 h).1
 have h1:¬v.k=0:=by
  unfold trN at h0;rw[h]at h0
  simpa [anyN]using h0
 have h2:v.k=1:=by
  have:=(ct1 h).2;unfold V.isT at this
  simp[h1]at this
  exact this
 rw[notV_some h h1]
 have e1:isV v true=v.isB true:=by
  rw[Bool.eq_iff_iff,isV_iff,isB_iff hm]
 have e2:=isB_one (b:=true) hm h2;have e3:trB false [v]=v.isB false:=by unfold trB anyB;rw[h];simp
 rw[e1,e3,←show v.isB (!true)=v.isB false from rfl,e2]
theorem notV_ref0{v:V}(h:ctL [v]=0)(h0:trN [v]=true):notV v=zV:=by
 have h1:v.k=0:=by
  unfold trN at h0;rw[h]at h0
  simpa [anyN]using h0
 unfold notV;rw[if_pos h,if_pos h1]
theorem not_any(v:V)(w:World) :
  Calls Tryz.prog 95 #[.agg #[.int .i64 v.k,.int .i64 v.i,.string v.s]] w fun e w'=>e = .returned (.tuple #[.agg #[.int .i64 (notV v).k,.int .i64 (notV v).i,.string (notV v).s],.int .i64 (ctL [v])])∧Below w.heap.size w w':=by
 have hcall:=checkTruths_any [v] _ 1 _ (w2of_row w v) (by simp)
 obtain⟨h0,h1,hb,hsz⟩:=w2of_box w v;have HN0:=Hi (@notV_null v);have HN1:=Hi (@notV_some v);have HN2:=Hi (@notV_bad v);have HT:=Hi (fun b=>truth_any b)
 have HH:=Hi (fun w=>holds_any v w)
 generalize ctL [v]=q at *;generalize notV v=r at *;generalize isV v true=p at *;have H0:=Hi h0;have H1:=Hi h1;have HZ:=Hi hsz;have HB:=Hi hb;have HC:=Hi hcall;clear h0 h1 hb hsz hcall;have HC:Hid (Calls Tryz.prog 145 #[.slice (some ⟨w.heap.size+2,0,none⟩) 1 1] (((w.alloc (.cells #[.int .i64 v.k,.int .i64 v.i,.string v.s] 26)).alloc (.cells #[.int .i64 0,.int .i64 0,.string ⟨#[]⟩] 26)).alloc (.cells #[.int .i64 v.k,.int .i64 v.i,.string v.s] 26)) fun e w'=>e = .returned (.int .i64 q)∧Below (w2of w v).heap.size (w2of w v) w'):=HC.out
 by_cases hq:q=0
 ·by_cases hk:v.k=0
  ·subst hq
   have HE:=Hi (HN0.out rfl hk);have hk':(v.k == 0)=true:=by simpa using hk
   clear hk;go_enter Tryz.func95,Tryz.ntmps95
   go_wp2_with (go_at_call 145;refine HC.out.mono ?_;rintro e w1 ⟨rfl,hb1⟩;obtain⟨e0,e1,e2⟩:=(H0.out.below hb1 (by rw[HZ.out];omega)).cells;obtain⟨g0,g1,g2⟩:=(H1.out.below hb1 (by rw[HZ.out];omega)).cells;obtain⟨f0,f1,f2⟩:=(H1.out.below hb1 (by rw[HZ.out];omega)).free;simp only[zV]at g0 g1 g2)
   exact bodyPost_ret (v:= .tuple #[.agg #[.int .i64 v.k,.int .i64 v.i,.string v.s],.int .i64 0]) (by simp[results,Tryz.results95,go_sem,g0,g1,g2]) rfl ⟨ret_vx HE.out rfl,Below.set3 (HB.out.trans (hb1.mono (by rw[HZ.out];omega))) (by omega) _ _ _⟩
  ·subst hq
   have HE:=Hi (HN1.out rfl hk);have hk':(v.k == 0)=false:=by simpa using hk
   clear hk;go_enter Tryz.func95,Tryz.ntmps95
   go_wp2_with (first | (go_at_call 145;refine HC.out.mono ?_;rintro e w1 ⟨rfl,hb1⟩;obtain⟨e0,e1,e2⟩:=(H0.out.below hb1 (by rw[HZ.out];omega)).cells) | (go_at_call 37;refine(HH.out _).mono ?_;rintro e w2 ⟨rfl,hb2⟩) | (go_at_call 62;refine(HT.out _ _).mono ?_;rintro e w3 ⟨rfl,hb3⟩;have HB3:=Hi (bthen (bthen hb1 hb2) hb3);obtain⟨g0,g1,g2⟩:=(H1.out.below HB3.out (by rw[HZ.out];omega)).cells;obtain⟨f0,f1,f2⟩:=(H1.out.below HB3.out (by rw[HZ.out];omega)).free;simp only[zV]at g0 g1 g2))
   exact bodyPost_ret (v:= .tuple #[.agg #[.int .i64 1,.int .i64 (bi (!p)),.string ⟨#[]⟩],.int .i64 0]) (by simp[results,Tryz.results95,go_sem,g0,g1,g2]) rfl ⟨ret_vx (u:=tV (!p)) HE.out rfl,Below.set3 (HB.out.trans (HB3.out.mono (by rw[HZ.out];omega))) (by omega) _ _ _⟩
 ·have hk':(q != 0)=true:=by simpa using hq
  have HE:=Hi (HN2.out hq);clear hq;go_enter Tryz.func95,Tryz.ntmps95
  go_wp2_with (go_at_call 145;refine HC.out.mono ?_;rintro e w1 ⟨rfl,hb1⟩;obtain⟨g0,g1,g2⟩:=(H1.out.below hb1 (by rw[HZ.out];omega)).cells;obtain⟨f0,f1,f2⟩:=(H1.out.below hb1 (by rw[HZ.out];omega)).free;simp only[zV]at g0 g1 g2)
  exact bodyPost_ret (v:= .tuple #[.agg #[.int .i64 0,.int .i64 0,.string ⟨#[]⟩],.int .i64 q]) (by simp[results,Tryz.results95,go_sem,g0,g1,g2]) rfl ⟨ret_vx (u:=zV) HE.out rfl,Below.set3 (HB.out.trans (hb1.mono (by rw[HZ.out];omega))) (by omega) _ _ _⟩
theorem rnot_any(v:V)(w:World) :
  Calls Tryz.prog 115 #[.agg #[.int .i64 v.k,.int .i64 v.i,.string v.s]] w fun e w'=>e = .returned (.tuple #[.agg #[.int .i64 (notV v).k,.int .i64 (notV v).i,.string (notV v).s],.int .i64 (ctL [v])])∧Below w.heap.size w w':=by
 have hcall:=truths_any [v] _ 1 _ (w2of_row w v) (by simp)
 obtain⟨h0,h1,hb,hsz⟩:=w2of_box w v;have HN0:=Hi (@notV_ref v);have HN1:=Hi (@notV_ref0 v);have HN2:=Hi (@notV_bad v);have HT:=Hi (fun b=>bool1_any b)
 generalize ctL [v]=q at *;generalize notV v=r at *;generalize trN [v]=x at *;generalize trB false [v]=p at *;generalize trB true [v]=z at *;have H1:=Hi h1;have HZ:=Hi hsz;have HB:=Hi hb;have HC:=Hi hcall;clear h0 h1 hb hsz hcall;have HC:Hid (Calls Tryz.prog 122 #[.slice (some ⟨w.heap.size+2,0,none⟩) 1 1] (((w.alloc (.cells #[.int .i64 v.k,.int .i64 v.i,.string v.s] 26)).alloc (.cells #[.int .i64 0,.int .i64 0,.string ⟨#[]⟩] 26)).alloc (.cells #[.int .i64 v.k,.int .i64 v.i,.string v.s] 26)) fun e w'=>e = .returned (.tuple #[.bool x,.bool p,.bool z,.int .i64 q])∧Below (w2of w v).heap.size (w2of w v) w'):=HC.out
 by_cases hq:q=0
 ·subst hq
  cases x
  ·have HE:=Hi (HN0.out rfl rfl)
   go_enter Tryz.func115,Tryz.ntmps115
   go_wp2_with (first | (go_at_call 122;refine HC.out.mono ?_;rintro e w1 ⟨rfl,hb1⟩) | (go_at_call 70;refine(HT.out _ _).mono ?_;rintro e w3 ⟨rfl,hb3⟩;have HB3:=Hi (bthen hb1 hb3);obtain⟨g0,g1,g2⟩:=(H1.out.below HB3.out (by rw[HZ.out];omega)).cells;obtain⟨f0,f1,f2⟩:=(H1.out.below HB3.out (by rw[HZ.out];omega)).free;simp only[zV]at g0 g1 g2))
   exact bodyPost_ret (v:= .tuple #[.agg #[.int .i64 1,.int .i64 (bi p),.string ⟨#[]⟩],.int .i64 0]) (by simp[results,Tryz.results115,go_sem,g0,g1,g2]) rfl ⟨ret_vx (u:=tV p) HE.out rfl,Below.set3 (HB.out.trans (HB3.out.mono (by rw[HZ.out];omega))) (by omega) _ _ _⟩
  ·have HE:=Hi (HN1.out rfl rfl)
   go_enter Tryz.func115,Tryz.ntmps115
   go_wp2_with (go_at_call 122;refine HC.out.mono ?_;rintro e w1 ⟨rfl,hb1⟩;obtain⟨g0,g1,g2⟩:=(H1.out.below hb1 (by rw[HZ.out];omega)).cells;obtain⟨f0,f1,f2⟩:=(H1.out.below hb1 (by rw[HZ.out];omega)).free;simp only[zV]at g0 g1 g2)
   exact bodyPost_ret (v:= .tuple #[.agg #[.int .i64 0,.int .i64 0,.string ⟨#[]⟩],.int .i64 0]) (by simp[results,Tryz.results115,go_sem,g0,g1,g2]) rfl ⟨ret_vx (u:=zV) HE.out rfl,Below.set3 (HB.out.trans (hb1.mono (by rw[HZ.out];omega))) (by omega) _ _ _⟩
 ·have hk':(q != 0)=true:=by simpa using hq
  have HE:=Hi (HN2.out hq);clear hq;go_enter Tryz.func115,Tryz.ntmps115
  go_wp2_with (go_at_call 122;refine HC.out.mono ?_;rintro e w1 ⟨rfl,hb1⟩;obtain⟨g0,g1,g2⟩:=(H1.out.below hb1 (by rw[HZ.out];omega)).cells;obtain⟨f0,f1,f2⟩:=(H1.out.below hb1 (by rw[HZ.out];omega)).free;simp only[zV]at g0 g1 g2)
  exact bodyPost_ret (v:= .tuple #[.agg #[.int .i64 0,.int .i64 0,.string ⟨#[]⟩],.int .i64 q]) (by simp[results,Tryz.results115,go_sem,g0,g1,g2]) rfl ⟨ret_vx (u:=zV) HE.out rfl,Below.set3 (HB.out.trans (hb1.mono (by rw[HZ.out];omega))) (by omega) _ _ _⟩
def w3of(w:World)(a b:V):World:=((w.alloc (.cells #[.int .i64 a.k,.int .i64 a.i,.string a.s] 26)).alloc (.cells #[.int .i64 b.k,.int .i64 b.i,.string b.s] 26)).alloc (.cells #[.int .i64 0,.int .i64 0,.string ⟨#[]⟩] 26)
theorem w3of_box(w:World)(a b:V):VBox (w3of w a b) w.heap.size a∧VBox (w3of w a b) (w.heap.size+1) b∧VBox (w3of w a b) (w.heap.size+2) zV∧Below w.heap.size w (w3of w a b)∧(w3of w a b).heap.size=w.heap.size+3:=by
 have h0:=VBox.made w a;have h1:=VBox.made (w.alloc (.cells #[.int .i64 a.k,.int .i64 a.i,.string a.s] 26)) b;have h2:=VBox.made ((w.alloc (.cells #[.int .i64 a.k,.int .i64 a.i,.string a.s] 26)).alloc (.cells #[.int .i64 b.k,.int .i64 b.i,.string b.s] 26)) zV;have b1:=Below.alloc (Below.refl (w.heap.size+1) (w.alloc (.cells #[.int .i64 a.k,.int .i64 a.i,.string a.s] 26))) (by simp) (.cells #[.int .i64 b.k,.int .i64 b.i,.string b.s] 26)
 have b2:=Below.alloc (Below.refl (w.heap.size+2) ((w.alloc (.cells #[.int .i64 a.k,.int .i64 a.i,.string a.s] 26)).alloc (.cells #[.int .i64 b.k,.int .i64 b.i,.string b.s] 26))) (by simp) (.cells #[.int .i64 0,.int .i64 0,.string ⟨#[]⟩] 26)
 rw[show(w.alloc (.cells #[.int .i64 a.k,.int .i64 a.i,.string a.s] 26)).heap.size=w.heap.size+1 by simp]at h1
 rw[show((w.alloc (.cells #[.int .i64 a.k,.int .i64 a.i,.string a.s] 26)).alloc (.cells #[.int .i64 b.k,.int .i64 b.i,.string b.s] 26)).heap.size=w.heap.size+2 by simp]at h2
 exact⟨(h0.below b1 (by omega)).below b2 (by omega),h1.below b2 (by omega),h2,(((Below.refl _ w).alloc (Nat.le_refl _) _).trans (b1.mono (by omega))).trans (b2.mono (by omega)),by simp[w3of]⟩
theorem w4of_row(w:World)(a b:V):RowAt (w.alloc (.cells #[.int .i64 a.k,.int .i64 a.i,.string a.s,.int .i64 b.k,.int .i64 b.i,.string b.s] 26)) (w.alloc (.cells #[.int .i64 a.k,.int .i64 a.i,.string a.s,.int .i64 b.k,.int .i64 b.i,.string b.s] 26)).heap.size (some ⟨w.heap.size,0,none⟩) [a,b] :=
 RowAt.of_heap (xs:=[a,b]) (heap_alloc_new w _) rfl
end Go.Proofs.YtcicpjgnpcnnmaaGreatDoor.LG
namespace Go.Proofs.YtcicpjgnpcnnmaaGreatDoor.BV
end Go.Proofs.YtcicpjgnpcnnmaaGreatDoor.BV
namespace Go.Proofs.YtcicpjgnpcnnmaaGreatDoor.LG
open BV
open Go.RowKit
def w4of(w:World)(a b:V):World:=(w3of w a b).alloc (.cells #[.int .i64 a.k,.int .i64 a.i,.string a.s,.int .i64 b.k,.int .i64 b.i,.string b.s] 26)
theorem w4of_at(w:World)(a b:V):RowAt (w4of w a b) (w4of w a b).heap.size (some ⟨w.heap.size+3,0,none⟩) [a,b]:=by
 have h:=w4of_row (w3of w a b) a b;rw[(w3of_box w a b).2.2.2.2]at h;exact h
theorem w4of_box(w:World)(a b:V):VBox (w4of w a b) w.heap.size a∧VBox (w4of w a b) (w.heap.size+1) b∧VBox (w4of w a b) (w.heap.size+2) zV∧Below w.heap.size w (w4of w a b)∧(w4of w a b).heap.size=w.heap.size+4:=by
 obtain⟨h0,h1,h2,h3,h4⟩:=w3of_box w a b;have hb:=Below.alloc (Below.refl (w.heap.size+3) (w3of w a b)) (by omega) (.cells #[.int .i64 a.k,.int .i64 a.i,.string a.s,.int .i64 b.k,.int .i64 b.i,.string b.s] 26)
 exact⟨h0.below hb (by omega),h1.below hb (by omega),h2.below hb (by omega),h3.trans (hb.mono (by omega)),by unfold w4of;simp;omega⟩
theorem chkA_or(xs:List V):chkA xs=if allOk xs then 0 else 1:=rfl
end Go.Proofs.YtcicpjgnpcnnmaaGreatDoor.LG
namespace Go.Proofs.YtcicpjgnpcnnmaaGreatDoor.BV
end Go.Proofs.YtcicpjgnpcnnmaaGreatDoor.BV
namespace Go.Proofs.YtcicpjgnpcnnmaaGreatDoor.LG
open BV
open Go.RowKit
def knB(op:ByteArray):Bool:=op.toList == [61] || op.toList == [60,62] || op.toList == [60] || op.toList == [60,61] || op.toList == [62] || op.toList == [62,61]
def soB(op:ByteArray)(n:Int):Bool :=
 if op.toList == [61]then n == 0 else if op.toList == [60,62]then n != 0 else if op.toList == [60]then decide (n < 0)else if op.toList == [60,61]then decide (n≤0)else if op.toList == [62]then decide (0 < n)else if op.toList == [62,61]then decide (0≤n)else false
theorem op_cases(op:ByteArray):op=⟨#[61]⟩∨op=⟨#[60,62]⟩∨op=⟨#[60]⟩∨op=⟨#[60,61]⟩∨op=⟨#[62]⟩∨op=⟨#[62,61]⟩∨((op.toList == [61])=false∧(op.toList == [60,62])=false∧(op.toList == [60])=false∧(op.toList == [60,61])=false∧(op.toList == [62])=false∧(op.toList == [62,61])=false):=by
 have key:∀ l:List UInt8,(op.toList == l)=true→op=⟨l.toArray⟩:=by
  intro l h;rw[Lib.toList_data,beq_iff_eq]at h;cases op;simp only[ByteArray.mk.injEq];rw[←h]
 by_cases h1:(op.toList == [61])=true
 ·exact Or.inl (key _ h1)
 by_cases h2:(op.toList == [60,62])=true
 ·exact Or.inr (Or.inl (key _ h2))
 by_cases h3:(op.toList == [60])=true
 ·exact Or.inr (Or.inr (Or.inl (key _ h3)))
 by_cases h4:(op.toList == [60,61])=true
 ·exact Or.inr (Or.inr (Or.inr (Or.inl (key _ h4))))
 by_cases h5:(op.toList == [62])=true
 ·exact Or.inr (Or.inr (Or.inr (Or.inr (Or.inl (key _ h5)))))
 by_cases h6:(op.toList == [62,61])=true
 ·exact Or.inr (Or.inr (Or.inr (Or.inr (Or.inr (Or.inl (key _ h6))))))
 ·exact Or.inr (Or.inr (Or.inr (Or.inr (Or.inr (Or.inr ⟨by simpa using h1,by simpa using h2,by simpa using h3,by simpa using h4,by simpa using h5,by simpa using h6⟩)))))
theorem so_eq(n:Int):soB ⟨#[61]⟩ n=(n == 0)∧soB ⟨#[60,62]⟩ n=(n != 0)∧soB ⟨#[60]⟩ n=decide (n < 0)∧soB ⟨#[60,61]⟩ n=decide (n≤0)∧soB ⟨#[62]⟩ n=decide (0 < n)∧soB ⟨#[62,61]⟩ n=decide (0≤n):=by
 unfold soB;simp only[Lib.toList_data];refine⟨rfl,rfl,rfl,rfl,rfl,rfl⟩
theorem kn_eq:knB ⟨#[61]⟩=true∧knB ⟨#[60,62]⟩=true∧knB ⟨#[60]⟩=true∧knB ⟨#[60,61]⟩=true∧knB ⟨#[62]⟩=true∧knB ⟨#[62,61]⟩=true:=by
 unfold knB;simp only[Lib.toList_data];refine⟨rfl,rfl,rfl,rfl,rfl,rfl⟩
theorem related_any(op:ByteArray)(n:Int)(w:World) :
  Calls Tryz.prog 147 #[.string op,.int .i64 n] w fun e w'=>e = .returned (.tuple #[.bool (soB op n),.bool (knB op)])∧w=w':=by
 obtain⟨a1,a2,a3,a4,a5,a6⟩:=so_eq n;obtain⟨b1,b2,b3,b4,b5,b6⟩:=kn_eq;rcases op_cases op with rfl | rfl | rfl | rfl | rfl | rfl | ⟨h1,h2,h3,h4,h5,h6⟩
 ·rw[a1,b1];clear a1 a2 a3 a4 a5 a6 b1 b2 b3 b4 b5 b6
  go_enter Tryz.func147,Tryz.ntmps147
  go_wp2
  exact bodyPost_ret (v:= .tuple #[.bool (n == 0),.bool true]) (by simp[results,Tryz.results147,go_sem]) rfl ⟨rfl,rfl⟩
 ·rw[a2,b2];clear a1 a2 a3 a4 a5 a6 b1 b2 b3 b4 b5 b6
  go_enter Tryz.func147,Tryz.ntmps147
  go_wp2
  exact bodyPost_ret (v:= .tuple #[.bool (n != 0),.bool true]) (by simp[results,Tryz.results147,go_sem]) rfl ⟨rfl,rfl⟩
 ·rw[a3,b3];clear a1 a2 a3 a4 a5 a6 b1 b2 b3 b4 b5 b6
  go_enter Tryz.func147,Tryz.ntmps147
  go_wp2
  exact bodyPost_ret (v:= .tuple #[.bool (decide (n < 0)),.bool true]) (by simp[results,Tryz.results147,go_sem]) rfl ⟨rfl,rfl⟩
 ·rw[a4,b4];clear a1 a2 a3 a4 a5 a6 b1 b2 b3 b4 b5 b6
  go_enter Tryz.func147,Tryz.ntmps147
  go_wp2
  exact bodyPost_ret (v:= .tuple #[.bool (decide (n≤0)),.bool true]) (by simp[results,Tryz.results147,go_sem]) rfl ⟨rfl,rfl⟩
 ·rw[a5,b5];clear a1 a2 a3 a4 a5 a6 b1 b2 b3 b4 b5 b6
  go_enter Tryz.func147,Tryz.ntmps147
  go_wp2
  exact bodyPost_ret (v:= .tuple #[.bool (decide (0 < n)),.bool true]) (by simp[results,Tryz.results147,go_sem]) rfl ⟨rfl,rfl⟩
 ·rw[a6,b6];clear a1 a2 a3 a4 a5 a6 b1 b2 b3 b4 b5 b6
  go_enter Tryz.func147,Tryz.ntmps147
  go_wp2
  exact bodyPost_ret (v:= .tuple #[.bool (decide (0≤n)),.bool true]) (by simp[results,Tryz.results147,go_sem]) rfl ⟨rfl,rfl⟩
 ·rw[show soB op n=false by unfold soB;simp[h1,h2,h3,h4,h5,h6],show knB op=false by unfold knB;simp[h1,h2,h3,h4,h5,h6]];clear a1 a2 a3 a4 a5 a6 b1 b2 b3 b4 b5 b6
  go_enter Tryz.func147,Tryz.ntmps147
  go_wp2
  exact bodyPost_ret (v:= .tuple #[.bool false,.bool false]) (by simp[results,Tryz.results147,go_sem]) rfl ⟨rfl,rfl⟩
def relE(op:ByteArray)(a b:V):Int:=if(allOk [a,b] && knB op)=true then (if a.k=0∨b.k=0∨a.k=b.k then 0 else 20)else 1
def relR(op:ByteArray)(a b:V):V:=if relE op a b=0∧¬a.k=0∧¬b.k=0 then tV (soB op (cmpV a.k a.i a.s b.k b.i b.s))else zV
theorem relR_zero{op:ByteArray}{a b:V}(h:¬relE op a b=0):relR op a b=zV:=by unfold relR;rw[if_neg (fun h'=>h h'.1)]
theorem rel_bad{op:ByteArray}{a b:V}(h:(allOk [a,b] && knB op)=false):relE op a b=1∧relR op a b=zV:=by
 have:relE op a b=1:=by unfold relE;rw[h];rfl
 exact⟨this,relR_zero (by rw[this];decide)⟩
theorem rel_kind{op:ByteArray}{a b:V}(h:(allOk [a,b] && knB op)=true)(h1:¬a.k=0)(h2:¬b.k=0)(h3:¬a.k=b.k):relE op a b=20∧relR op a b=zV:=by
 have:relE op a b=20:=by unfold relE;rw[h,if_pos rfl,if_neg (by omega)]
 exact⟨this,relR_zero (by rw[this];decide)⟩
theorem rel_null{op:ByteArray}{a b:V}(h:(allOk [a,b] && knB op)=true)(h1:a.k=0∨b.k=0):relE op a b=0∧relR op a b=zV:=by
 have:relE op a b=0:=by unfold relE;rw[h,if_pos rfl,if_pos (by omega)]
 exact⟨this,by unfold relR;rw[if_neg (by omega)]⟩
theorem rel_good{op:ByteArray}{a b:V}(h:(allOk [a,b] && knB op)=true)(h1:¬a.k=0)(h2:¬b.k=0)(h3:a.k=b.k):relE op a b=0∧relR op a b=tV (soB op (cmpV a.k a.i a.s b.k b.i b.s)):=by
 have:relE op a b=0:=by unfold relE;rw[h,if_pos rfl,if_pos (by omega)]
 exact⟨this,by unfold relR;rw[if_pos ⟨this,h1,h2⟩]⟩
theorem kinds(a b:V):(((a.k == 0)=true∨((a.k == 0)=false∧(b.k == 0)=true))∧(a.k=0∨b.k=0))∨((a.k == 0)=false∧(b.k == 0)=false∧(a.k != b.k)=true∧¬a.k=0∧¬b.k=0∧¬a.k=b.k)∨((a.k == 0)=false∧(b.k == 0)=false∧(a.k != b.k)=false∧¬a.k=0∧¬b.k=0∧a.k=b.k):=by
 simp only[beq_iff_eq,beq_eq_false_iff_ne,bne_iff_ne,bne_eq_false_iff_eq,ne_eq]
 omega
theorem two_check(w:World)(a b:V):Calls Tryz.prog 148 #[.slice (some ⟨w.heap.size,0,none⟩) 2 2] (w.alloc (.cells #[.int .i64 a.k,.int .i64 a.i,.string a.s,.int .i64 b.k,.int .i64 b.i,.string b.s] 26)) fun e w'=>e = .returned (.int .i64 (chkA [a,b]))∧Below w.heap.size w w':=by
 refine(lcheck_any [a,b] _ 2 _ (w4of_row w a b) (by simp)).mono ?_
 rintro e w' ⟨rfl,hb⟩;exact⟨rfl,((Below.refl _ w).alloc (Nat.le_refl _) _).trans (hb.mono (by simp))⟩
theorem rel_any(op:ByteArray)(a b:V)(w:World) :
  Calls Tryz.prog 101 #[.string op,.agg #[.int .i64 a.k,.int .i64 a.i,.string a.s],.agg #[.int .i64 b.k,.int .i64 b.i,.string b.s]] w fun e w'=>e = .returned (.tuple #[.agg #[.int .i64 (relR op a b).k,.int .i64 (relR op a b).i,.string (relR op a b).s],.int .i64 (relE op a b)])∧Below w.heap.size w w':=by
 obtain⟨h0,h1,h2,hb,hsz⟩:=w3of_box w a b;have HB0:=Hi (@rel_bad op a b);have HB1:=Hi (@rel_kind op a b);have HB2:=Hi (@rel_null op a b);have HB3:=Hi (@rel_good op a b);have HT:=Hi (fun b=>truth_any b)
 have HM:=Hi (fun w=>cmpV_any a.k a.i b.k b.i a.s b.s w)
 have HR:=Hi (fun w=>related_any op (cmpV a.k a.i a.s b.k b.i b.s) w)
 have HC:=Hi (fun w=>two_check w a b)
 simp only[chkA_or]at HC;generalize relE op a b=q at *;generalize relR op a b=r at *;generalize cmpV a.k a.i a.s b.k b.i b.s=n at *;generalize soB op n=p at *;generalize knB op=kn at *;generalize allOk [a,b]=g at *;have H0:=Hi h0;have H1:=Hi h1;have H2:=Hi h2;have HZ:=Hi hsz;have HB:=Hi hb;clear h0 h1 h2 hb hsz;have HM:Hid (Calls Tryz.prog 72 #[.agg #[.int .i64 a.k,.int .i64 a.i,.string a.s],.agg #[.int .i64 b.k,.int .i64 b.i,.string b.s]] (((w.alloc (.cells #[.int .i64 a.k,.int .i64 a.i,.string a.s] 26)).alloc (.cells #[.int .i64 b.k,.int .i64 b.i,.string b.s] 26)).alloc (.cells #[.int .i64 0,.int .i64 0,.string ⟨#[]⟩] 26)) fun e w'=>e = .returned (.int .i64 n)∧Below (w3of w a b).heap.size (w3of w a b) w'):=HM.out _
 cases kn
 ·have HE:=Hi (HB0.out (by simp))
  go_enter Tryz.func101,Tryz.ntmps101
  go_wp2_with (first | (go_at_call 72;refine HM.out.mono ?_;rintro e w1 ⟨rfl,hb1⟩;obtain⟨d0,d1,d2⟩:=(H0.out.below hb1 (by rw[HZ.out];omega)).cells;obtain⟨e0,e1,e2⟩:=(H1.out.below hb1 (by rw[HZ.out];omega)).cells;obtain⟨g0,g1,g2⟩:=(H2.out.below hb1 (by rw[HZ.out];omega)).cells;obtain⟨f0,f1,f2⟩:=(H2.out.below hb1 (by rw[HZ.out];omega)).free;simp only[zV]at g0 g1 g2) | (go_at_call 147;refine(HR.out _).mono ?_;rintro e w2 ⟨rfl,rfl⟩))
  exact bodyPost_ret (v:= .tuple #[.agg #[.int .i64 0,.int .i64 0,.string ⟨#[]⟩],.int .i64 1]) (by simp[results,Tryz.results101,go_sem,g0,g1,g2]) rfl ⟨ret_vx (u:=zV) HE.out.2 HE.out.1,Below.set3 (HB.out.trans (hb1.mono (by rw[HZ.out];omega))) (by omega) _ _ _⟩
 ·cases g
  ·have HE:=Hi (HB0.out (by simp))
   simp only[Bool.false_eq_true,if_false]at HC;go_enter Tryz.func101,Tryz.ntmps101
   go_wp2_with (first | (go_at_call 72;refine HM.out.mono ?_;rintro e w1 ⟨rfl,hb1⟩;obtain⟨d0,d1,d2⟩:=(H0.out.below hb1 (by rw[HZ.out];omega)).cells;obtain⟨e0,e1,e2⟩:=(H1.out.below hb1 (by rw[HZ.out];omega)).cells;obtain⟨g0,g1,g2⟩:=(H2.out.below hb1 (by rw[HZ.out];omega)).cells;obtain⟨f0,f1,f2⟩:=(H2.out.below hb1 (by rw[HZ.out];omega)).free;simp only[zV]at g0 g1 g2) | (go_at_call 147;refine(HR.out _).mono ?_;rintro e w2 ⟨rfl,rfl⟩) | (go_at_call 148;refine(HC.out _).mono ?_;rintro e w3 ⟨rfl,hb3⟩;have HB3':=Hi (bthen hb1 hb3);clear d0 d1 d2 e0 e1 e2 f0 f1 f2 g0 g1 g2;obtain⟨d0,d1,d2⟩:=(H0.out.below HB3'.out (by rw[HZ.out];omega)).cells;obtain⟨e0,e1,e2⟩:=(H1.out.below HB3'.out (by rw[HZ.out];omega)).cells;obtain⟨g0,g1,g2⟩:=(H2.out.below HB3'.out (by rw[HZ.out];omega)).cells;obtain⟨f0,f1,f2⟩:=(H2.out.below HB3'.out (by rw[HZ.out];omega)).free;simp only[zV]at g0 g1 g2))
   exact bodyPost_ret (v:= .tuple #[.agg #[.int .i64 0,.int .i64 0,.string ⟨#[]⟩],.int .i64 1]) (by simp[results,Tryz.results101,go_sem,g0,g1,g2]) rfl ⟨ret_vx (u:=zV) HE.out.2 HE.out.1,Below.set3 (HB.out.trans (HB3'.out.mono (by rw[HZ.out];omega))) (by omega) _ _ _⟩
  ·simp only[if_true]at HC
   rcases kinds a b with ⟨k1 | ⟨k1,k2⟩,hk⟩ | ⟨k1,k2,k3,hk1,hk2,hk3⟩ | ⟨k1,k2,k3,hk1,hk2,hk3⟩
   ·have HE:=Hi (HB2.out (by simp) hk)
    clear hk;go_enter Tryz.func101,Tryz.ntmps101
    go_wp2_with (first | (go_at_call 72;refine HM.out.mono ?_;rintro e w1 ⟨rfl,hb1⟩;obtain⟨d0,d1,d2⟩:=(H0.out.below hb1 (by rw[HZ.out];omega)).cells;obtain⟨e0,e1,e2⟩:=(H1.out.below hb1 (by rw[HZ.out];omega)).cells;obtain⟨g0,g1,g2⟩:=(H2.out.below hb1 (by rw[HZ.out];omega)).cells;obtain⟨f0,f1,f2⟩:=(H2.out.below hb1 (by rw[HZ.out];omega)).free;simp only[zV]at g0 g1 g2) | (go_at_call 147;refine(HR.out _).mono ?_;rintro e w2 ⟨rfl,rfl⟩) | (go_at_call 148;refine(HC.out _).mono ?_;rintro e w3 ⟨rfl,hb3⟩;have HB3':=Hi (bthen hb1 hb3);clear d0 d1 d2 e0 e1 e2 f0 f1 f2 g0 g1 g2;obtain⟨d0,d1,d2⟩:=(H0.out.below HB3'.out (by rw[HZ.out];omega)).cells;obtain⟨e0,e1,e2⟩:=(H1.out.below HB3'.out (by rw[HZ.out];omega)).cells;obtain⟨g0,g1,g2⟩:=(H2.out.below HB3'.out (by rw[HZ.out];omega)).cells;obtain⟨f0,f1,f2⟩:=(H2.out.below HB3'.out (by rw[HZ.out];omega)).free;simp only[zV]at g0 g1 g2))
    exact bodyPost_ret (v:= .tuple #[.agg #[.int .i64 0,.int .i64 0,.string ⟨#[]⟩],.int .i64 0]) (by simp[results,Tryz.results101,go_sem,g0,g1,g2]) rfl ⟨ret_vx (u:=zV) HE.out.2 HE.out.1,Below.set3 (HB.out.trans (HB3'.out.mono (by rw[HZ.out];omega))) (by omega) _ _ _⟩
   ·have HE:=Hi (HB2.out (by simp) hk)
    clear hk;go_enter Tryz.func101,Tryz.ntmps101
    go_wp2_with (first | (go_at_call 72;refine HM.out.mono ?_;rintro e w1 ⟨rfl,hb1⟩;obtain⟨d0,d1,d2⟩:=(H0.out.below hb1 (by rw[HZ.out];omega)).cells;obtain⟨e0,e1,e2⟩:=(H1.out.below hb1 (by rw[HZ.out];omega)).cells;obtain⟨g0,g1,g2⟩:=(H2.out.below hb1 (by rw[HZ.out];omega)).cells;obtain⟨f0,f1,f2⟩:=(H2.out.below hb1 (by rw[HZ.out];omega)).free;simp only[zV]at g0 g1 g2) | (go_at_call 147;refine(HR.out _).mono ?_;rintro e w2 ⟨rfl,rfl⟩) | (go_at_call 148;refine(HC.out _).mono ?_;rintro e w3 ⟨rfl,hb3⟩;have HB3':=Hi (bthen hb1 hb3);clear d0 d1 d2 e0 e1 e2 f0 f1 f2 g0 g1 g2;obtain⟨d0,d1,d2⟩:=(H0.out.below HB3'.out (by rw[HZ.out];omega)).cells;obtain⟨e0,e1,e2⟩:=(H1.out.below HB3'.out (by rw[HZ.out];omega)).cells;obtain⟨g0,g1,g2⟩:=(H2.out.below HB3'.out (by rw[HZ.out];omega)).cells;obtain⟨f0,f1,f2⟩:=(H2.out.below HB3'.out (by rw[HZ.out];omega)).free;simp only[zV]at g0 g1 g2))
    exact bodyPost_ret (v:= .tuple #[.agg #[.int .i64 0,.int .i64 0,.string ⟨#[]⟩],.int .i64 0]) (by simp[results,Tryz.results101,go_sem,g0,g1,g2]) rfl ⟨ret_vx (u:=zV) HE.out.2 HE.out.1,Below.set3 (HB.out.trans (HB3'.out.mono (by rw[HZ.out];omega))) (by omega) _ _ _⟩
   ·have HE:=Hi (HB1.out (by simp) hk1 hk2 hk3)
    clear hk1 hk2 hk3;go_enter Tryz.func101,Tryz.ntmps101
    go_wp2_with (first | (go_at_call 72;refine HM.out.mono ?_;rintro e w1 ⟨rfl,hb1⟩;obtain⟨d0,d1,d2⟩:=(H0.out.below hb1 (by rw[HZ.out];omega)).cells;obtain⟨e0,e1,e2⟩:=(H1.out.below hb1 (by rw[HZ.out];omega)).cells;obtain⟨g0,g1,g2⟩:=(H2.out.below hb1 (by rw[HZ.out];omega)).cells;obtain⟨f0,f1,f2⟩:=(H2.out.below hb1 (by rw[HZ.out];omega)).free;simp only[zV]at g0 g1 g2) | (go_at_call 147;refine(HR.out _).mono ?_;rintro e w2 ⟨rfl,rfl⟩) | (go_at_call 148;refine(HC.out _).mono ?_;rintro e w3 ⟨rfl,hb3⟩;have HB3':=Hi (bthen hb1 hb3);clear d0 d1 d2 e0 e1 e2 f0 f1 f2 g0 g1 g2;obtain⟨d0,d1,d2⟩:=(H0.out.below HB3'.out (by rw[HZ.out];omega)).cells;obtain⟨e0,e1,e2⟩:=(H1.out.below HB3'.out (by rw[HZ.out];omega)).cells;obtain⟨g0,g1,g2⟩:=(H2.out.below HB3'.out (by rw[HZ.out];omega)).cells;obtain⟨f0,f1,f2⟩:=(H2.out.below HB3'.out (by rw[HZ.out];omega)).free;simp only[zV]at g0 g1 g2))
    exact bodyPost_ret (v:= .tuple #[.agg #[.int .i64 0,.int .i64 0,.string ⟨#[]⟩],.int .i64 20]) (by simp[results,Tryz.results101,go_sem,g0,g1,g2]) rfl ⟨ret_vx (u:=zV) HE.out.2 HE.out.1,Below.set3 (HB.out.trans (HB3'.out.mono (by rw[HZ.out];omega))) (by omega) _ _ _⟩
   ·have HE:=Hi (HB3.out (by simp) hk1 hk2 hk3)
    clear hk1 hk2 hk3;go_enter Tryz.func101,Tryz.ntmps101
    go_wp2_with (first | (go_at_call 72;refine HM.out.mono ?_;rintro e w1 ⟨rfl,hb1⟩;obtain⟨d0,d1,d2⟩:=(H0.out.below hb1 (by rw[HZ.out];omega)).cells;obtain⟨e0,e1,e2⟩:=(H1.out.below hb1 (by rw[HZ.out];omega)).cells;obtain⟨g0,g1,g2⟩:=(H2.out.below hb1 (by rw[HZ.out];omega)).cells;obtain⟨f0,f1,f2⟩:=(H2.out.below hb1 (by rw[HZ.out];omega)).free;simp only[zV]at g0 g1 g2) | (go_at_call 147;refine(HR.out _).mono ?_;rintro e w2 ⟨rfl,rfl⟩) | (go_at_call 148;refine(HC.out _).mono ?_;rintro e w3 ⟨rfl,hb3⟩;have HB3':=Hi (bthen hb1 hb3);clear d0 d1 d2 e0 e1 e2 f0 f1 f2 g0 g1 g2;obtain⟨d0,d1,d2⟩:=(H0.out.below HB3'.out (by rw[HZ.out];omega)).cells;obtain⟨e0,e1,e2⟩:=(H1.out.below HB3'.out (by rw[HZ.out];omega)).cells;obtain⟨g0,g1,g2⟩:=(H2.out.below HB3'.out (by rw[HZ.out];omega)).cells;obtain⟨f0,f1,f2⟩:=(H2.out.below HB3'.out (by rw[HZ.out];omega)).free;simp only[zV]at g0 g1 g2) | (go_at_call 62;refine(HT.out _ _).mono ?_;rintro e w4 ⟨rfl,hb4⟩;have HB4:=Hi (bthen HB3'.out hb4);clear d0 d1 d2 e0 e1 e2 f0 f1 f2 g0 g1 g2;obtain⟨d0,d1,d2⟩:=(H0.out.below HB4.out (by rw[HZ.out];omega)).cells;obtain⟨e0,e1,e2⟩:=(H1.out.below HB4.out (by rw[HZ.out];omega)).cells;obtain⟨g0,g1,g2⟩:=(H2.out.below HB4.out (by rw[HZ.out];omega)).cells;obtain⟨f0,f1,f2⟩:=(H2.out.below HB4.out (by rw[HZ.out];omega)).free;simp only[zV]at g0 g1 g2))
    exact bodyPost_ret (v:= .tuple #[.agg #[.int .i64 1,.int .i64 (bi p),.string ⟨#[]⟩],.int .i64 0]) (by simp[results,Tryz.results101,go_sem,g0,g1,g2]) rfl ⟨ret_vx (u:=tV p) HE.out.2 HE.out.1,Below.set3 (HB.out.trans (HB4.out.mono (by rw[HZ.out];omega))) (by omega) _ _ _⟩
end Go.Proofs.YtcicpjgnpcnnmaaGreatDoor.LG
namespace Go.Proofs.YtcicpjgnpcnnmaaGreatDoor.BV
end Go.Proofs.YtcicpjgnpcnnmaaGreatDoor.BV
namespace Go.Proofs.YtcicpjgnpcnnmaaGreatDoor.LG
open BV
open Go.RowKit
theorem rrel_any(op:ByteArray)(a b:V)(w:World) :
  Calls Tryz.prog 66 #[.string op,.agg #[.int .i64 a.k,.int .i64 a.i,.string a.s],.agg #[.int .i64 b.k,.int .i64 b.i,.string b.s]] w fun e w'=>e = .returned (.tuple #[.agg #[.int .i64 (relR op a b).k,.int .i64 (relR op a b).i,.string (relR op a b).s],.int .i64 (relE op a b)])∧Below w.heap.size w w':=by
 have hcall:=may_any [a,b] _ 2 _ (w4of_at w a b) (by simp)
 obtain⟨h0,h1,h2,hb,hsz⟩:=w4of_box w a b;have HB0:=Hi (@rel_bad op a b);have HB1:=Hi (@rel_kind op a b);have HB2:=Hi (@rel_null op a b);have HB3:=Hi (@rel_good op a b);have HT:=Hi (fun b=>bool1_any b)
 have HM:=Hi (fun w=>rcmpV_any a.k a.i b.k b.i a.s b.s w)
 generalize relE op a b=q at *;generalize relR op a b=r at *;generalize cmpV a.k a.i a.s b.k b.i b.s=n at *;generalize allOk [a,b]=g at *;have H0:=Hi h0;have H1:=Hi h1;have H2:=Hi h2;have HZ:=Hi hsz;have HB:=Hi hb;have HC:=Hi hcall;clear h0 h1 h2 hb hsz hcall;have HC:Hid (Calls Tryz.prog 121 #[.slice (some ⟨w.heap.size+3,0,none⟩) 2 2] ((((w.alloc (.cells #[.int .i64 a.k,.int .i64 a.i,.string a.s] 26)).alloc (.cells #[.int .i64 b.k,.int .i64 b.i,.string b.s] 26)).alloc (.cells #[.int .i64 0,.int .i64 0,.string ⟨#[]⟩] 26)).alloc (.cells #[.int .i64 a.k,.int .i64 a.i,.string a.s,.int .i64 b.k,.int .i64 b.i,.string b.s] 26)) fun e w'=>e = .returned (.bool g)∧Below (w4of w a b).heap.size (w4of w a b) w'):=HC.out
 cases g
 ·have HE:=Hi (HB0.out (by simp))
  go_enter Tryz.func66,Tryz.ntmps66
  go_wp2_with (first | (go_at_call 121;refine HC.out.mono ?_;rintro e w1 ⟨rfl,hb1⟩;obtain⟨d0,d1,d2⟩:=(H0.out.below hb1 (by rw[HZ.out];omega)).cells;obtain⟨e0,e1,e2⟩:=(H1.out.below hb1 (by rw[HZ.out];omega)).cells;obtain⟨g0,g1,g2⟩:=(H2.out.below hb1 (by rw[HZ.out];omega)).cells;obtain⟨f0,f1,f2⟩:=(H2.out.below hb1 (by rw[HZ.out];omega)).free;simp only[zV]at g0 g1 g2))
  exact bodyPost_ret (v:= .tuple #[.agg #[.int .i64 0,.int .i64 0,.string ⟨#[]⟩],.int .i64 1]) (by simp[results,Tryz.results66,go_sem,g0,g1,g2]) rfl ⟨ret_vx (u:=zV) HE.out.2 HE.out.1,Below.set3 (HB.out.trans (hb1.mono (by rw[HZ.out];omega))) (by omega) _ _ _⟩
 ·rcases op_cases op with rfl | rfl | rfl | rfl | rfl | rfl | ⟨h1,h2,h3,h4,h5,h6⟩
  rotate_right
  ·have hkn:knB op=false:=by unfold knB;simp[h1,h2,h3,h4,h5,h6]
   have HE:=Hi (HB0.out (by rw[hkn];rfl))
   clear hkn HB0 HB1 HB2 HB3;go_enter Tryz.func66,Tryz.ntmps66
   go_wp2_with (first | (go_at_call 121;refine HC.out.mono ?_;rintro e w1 ⟨rfl,hb1⟩;obtain⟨d0,d1,d2⟩:=(H0.out.below hb1 (by rw[HZ.out];omega)).cells;obtain⟨e0,e1,e2⟩:=(H1.out.below hb1 (by rw[HZ.out];omega)).cells;obtain⟨g0,g1,g2⟩:=(H2.out.below hb1 (by rw[HZ.out];omega)).cells;obtain⟨f0,f1,f2⟩:=(H2.out.below hb1 (by rw[HZ.out];omega)).free;simp only[zV]at g0 g1 g2) | (go_at_call 73;refine(HM.out _).mono ?_;rintro e w3 ⟨rfl,hb3⟩;have HB3':=Hi (bthen hb1 hb3);clear d0 d1 d2 e0 e1 e2 f0 f1 f2 g0 g1 g2;obtain⟨d0,d1,d2⟩:=(H0.out.below HB3'.out (by rw[HZ.out];omega)).cells;obtain⟨e0,e1,e2⟩:=(H1.out.below HB3'.out (by rw[HZ.out];omega)).cells;obtain⟨g0,g1,g2⟩:=(H2.out.below HB3'.out (by rw[HZ.out];omega)).cells;obtain⟨f0,f1,f2⟩:=(H2.out.below HB3'.out (by rw[HZ.out];omega)).free;simp only[zV]at g0 g1 g2))
   exact bodyPost_ret (v:= .tuple #[.agg #[.int .i64 0,.int .i64 0,.string ⟨#[]⟩],.int .i64 1]) (by simp[results,Tryz.results66,go_sem,g0,g1,g2]) rfl ⟨ret_vx (u:=zV) HE.out.2 HE.out.1,Below.set3 (HB.out.trans (HB3'.out.mono (by rw[HZ.out];omega))) (by omega) _ _ _⟩
  all_goals
   clear HB0
   first | rw[(so_eq n).1]at HB3 | rw[(so_eq n).2.1]at HB3 | rw[(so_eq n).2.2.1]at HB3 | rw[(so_eq n).2.2.2.1]at HB3 | rw[(so_eq n).2.2.2.2.1]at HB3 | rw[(so_eq n).2.2.2.2.2]at HB3
   first | rw[kn_eq.1]at HB1 HB2 HB3 | rw[kn_eq.2.1]at HB1 HB2 HB3 | rw[kn_eq.2.2.1]at HB1 HB2 HB3 | rw[kn_eq.2.2.2.1]at HB1 HB2 HB3 | rw[kn_eq.2.2.2.2.1]at HB1 HB2 HB3 | rw[kn_eq.2.2.2.2.2]at HB1 HB2 HB3
   rcases kinds a b with ⟨k1 | ⟨k1,k2⟩,hk⟩ | ⟨k1,k2,k3,hk1,hk2,hk3⟩ | ⟨k1,k2,k3,hk1,hk2,hk3⟩
   ·have HE:=Hi (HB2.out (by simp) hk)
    clear hk;go_enter Tryz.func66,Tryz.ntmps66
    go_wp2_with (first | (go_at_call 121;refine HC.out.mono ?_;rintro e w1 ⟨rfl,hb1⟩;obtain⟨d0,d1,d2⟩:=(H0.out.below hb1 (by rw[HZ.out];omega)).cells;obtain⟨e0,e1,e2⟩:=(H1.out.below hb1 (by rw[HZ.out];omega)).cells;obtain⟨g0,g1,g2⟩:=(H2.out.below hb1 (by rw[HZ.out];omega)).cells;obtain⟨f0,f1,f2⟩:=(H2.out.below hb1 (by rw[HZ.out];omega)).free;simp only[zV]at g0 g1 g2) | (go_at_call 73;refine(HM.out _).mono ?_;rintro e w3 ⟨rfl,hb3⟩;have HB3':=Hi (bthen hb1 hb3);clear d0 d1 d2 e0 e1 e2 f0 f1 f2 g0 g1 g2;obtain⟨d0,d1,d2⟩:=(H0.out.below HB3'.out (by rw[HZ.out];omega)).cells;obtain⟨e0,e1,e2⟩:=(H1.out.below HB3'.out (by rw[HZ.out];omega)).cells;obtain⟨g0,g1,g2⟩:=(H2.out.below HB3'.out (by rw[HZ.out];omega)).cells;obtain⟨f0,f1,f2⟩:=(H2.out.below HB3'.out (by rw[HZ.out];omega)).free;simp only[zV]at g0 g1 g2))
    exact bodyPost_ret (v:= .tuple #[.agg #[.int .i64 0,.int .i64 0,.string ⟨#[]⟩],.int .i64 0]) (by simp[results,Tryz.results66,go_sem,g0,g1,g2]) rfl ⟨ret_vx (u:=zV) HE.out.2 HE.out.1,Below.set3 (HB.out.trans (HB3'.out.mono (by rw[HZ.out];omega))) (by omega) _ _ _⟩
   ·have HE:=Hi (HB2.out (by simp) hk)
    clear hk;go_enter Tryz.func66,Tryz.ntmps66
    go_wp2_with (first | (go_at_call 121;refine HC.out.mono ?_;rintro e w1 ⟨rfl,hb1⟩;obtain⟨d0,d1,d2⟩:=(H0.out.below hb1 (by rw[HZ.out];omega)).cells;obtain⟨e0,e1,e2⟩:=(H1.out.below hb1 (by rw[HZ.out];omega)).cells;obtain⟨g0,g1,g2⟩:=(H2.out.below hb1 (by rw[HZ.out];omega)).cells;obtain⟨f0,f1,f2⟩:=(H2.out.below hb1 (by rw[HZ.out];omega)).free;simp only[zV]at g0 g1 g2) | (go_at_call 73;refine(HM.out _).mono ?_;rintro e w3 ⟨rfl,hb3⟩;have HB3':=Hi (bthen hb1 hb3);clear d0 d1 d2 e0 e1 e2 f0 f1 f2 g0 g1 g2;obtain⟨d0,d1,d2⟩:=(H0.out.below HB3'.out (by rw[HZ.out];omega)).cells;obtain⟨e0,e1,e2⟩:=(H1.out.below HB3'.out (by rw[HZ.out];omega)).cells;obtain⟨g0,g1,g2⟩:=(H2.out.below HB3'.out (by rw[HZ.out];omega)).cells;obtain⟨f0,f1,f2⟩:=(H2.out.below HB3'.out (by rw[HZ.out];omega)).free;simp only[zV]at g0 g1 g2))
    exact bodyPost_ret (v:= .tuple #[.agg #[.int .i64 0,.int .i64 0,.string ⟨#[]⟩],.int .i64 0]) (by simp[results,Tryz.results66,go_sem,g0,g1,g2]) rfl ⟨ret_vx (u:=zV) HE.out.2 HE.out.1,Below.set3 (HB.out.trans (HB3'.out.mono (by rw[HZ.out];omega))) (by omega) _ _ _⟩
   ·have HE:=Hi (HB1.out (by simp) hk1 hk2 hk3)
    clear hk1 hk2 hk3;go_enter Tryz.func66,Tryz.ntmps66
    go_wp2_with (first | (go_at_call 121;refine HC.out.mono ?_;rintro e w1 ⟨rfl,hb1⟩;obtain⟨d0,d1,d2⟩:=(H0.out.below hb1 (by rw[HZ.out];omega)).cells;obtain⟨e0,e1,e2⟩:=(H1.out.below hb1 (by rw[HZ.out];omega)).cells;obtain⟨g0,g1,g2⟩:=(H2.out.below hb1 (by rw[HZ.out];omega)).cells;obtain⟨f0,f1,f2⟩:=(H2.out.below hb1 (by rw[HZ.out];omega)).free;simp only[zV]at g0 g1 g2) | (go_at_call 73;refine(HM.out _).mono ?_;rintro e w3 ⟨rfl,hb3⟩;have HB3':=Hi (bthen hb1 hb3);clear d0 d1 d2 e0 e1 e2 f0 f1 f2 g0 g1 g2;obtain⟨d0,d1,d2⟩:=(H0.out.below HB3'.out (by rw[HZ.out];omega)).cells;obtain⟨e0,e1,e2⟩:=(H1.out.below HB3'.out (by rw[HZ.out];omega)).cells;obtain⟨g0,g1,g2⟩:=(H2.out.below HB3'.out (by rw[HZ.out];omega)).cells;obtain⟨f0,f1,f2⟩:=(H2.out.below HB3'.out (by rw[HZ.out];omega)).free;simp only[zV]at g0 g1 g2))
    exact bodyPost_ret (v:= .tuple #[.agg #[.int .i64 0,.int .i64 0,.string ⟨#[]⟩],.int .i64 20]) (by simp[results,Tryz.results66,go_sem,g0,g1,g2]) rfl ⟨ret_vx (u:=zV) HE.out.2 HE.out.1,Below.set3 (HB.out.trans (HB3'.out.mono (by rw[HZ.out];omega))) (by omega) _ _ _⟩
   ·have HE:=Hi (HB3.out (by simp) hk1 hk2 hk3)
    clear hk1 hk2 hk3;go_enter Tryz.func66,Tryz.ntmps66
    go_wp2_with (first | (go_at_call 121;refine HC.out.mono ?_;rintro e w1 ⟨rfl,hb1⟩;obtain⟨d0,d1,d2⟩:=(H0.out.below hb1 (by rw[HZ.out];omega)).cells;obtain⟨e0,e1,e2⟩:=(H1.out.below hb1 (by rw[HZ.out];omega)).cells;obtain⟨g0,g1,g2⟩:=(H2.out.below hb1 (by rw[HZ.out];omega)).cells;obtain⟨f0,f1,f2⟩:=(H2.out.below hb1 (by rw[HZ.out];omega)).free;simp only[zV]at g0 g1 g2) | (go_at_call 73;refine(HM.out _).mono ?_;rintro e w3 ⟨rfl,hb3⟩;have HB3':=Hi (bthen hb1 hb3);clear d0 d1 d2 e0 e1 e2 f0 f1 f2 g0 g1 g2;obtain⟨d0,d1,d2⟩:=(H0.out.below HB3'.out (by rw[HZ.out];omega)).cells;obtain⟨e0,e1,e2⟩:=(H1.out.below HB3'.out (by rw[HZ.out];omega)).cells;obtain⟨g0,g1,g2⟩:=(H2.out.below HB3'.out (by rw[HZ.out];omega)).cells;obtain⟨f0,f1,f2⟩:=(H2.out.below HB3'.out (by rw[HZ.out];omega)).free;simp only[zV]at g0 g1 g2) | (go_at_call 70;refine(HT.out _ _).mono ?_;rintro e w4 ⟨rfl,hb4⟩;have HB4:=Hi (bthen HB3'.out hb4);clear d0 d1 d2 e0 e1 e2 f0 f1 f2 g0 g1 g2;obtain⟨d0,d1,d2⟩:=(H0.out.below HB4.out (by rw[HZ.out];omega)).cells;obtain⟨e0,e1,e2⟩:=(H1.out.below HB4.out (by rw[HZ.out];omega)).cells;obtain⟨g0,g1,g2⟩:=(H2.out.below HB4.out (by rw[HZ.out];omega)).cells;obtain⟨f0,f1,f2⟩:=(H2.out.below HB4.out (by rw[HZ.out];omega)).free;simp only[zV]at g0 g1 g2))
    first | exact bodyPost_ret (v:= .tuple #[.agg #[.int .i64 1,.int .i64 (bi (n == 0)),.string ⟨#[]⟩],.int .i64 0]) (by simp[results,Tryz.results66,go_sem,g0,g1,g2]) rfl ⟨ret_vx (u:=tV (n == 0)) HE.out.2 HE.out.1,Below.set3 (HB.out.trans (HB4.out.mono (by rw[HZ.out];omega))) (by omega) _ _ _⟩ | exact bodyPost_ret (v:= .tuple #[.agg #[.int .i64 1,.int .i64 (bi (n != 0)),.string ⟨#[]⟩],.int .i64 0]) (by simp[results,Tryz.results66,go_sem,g0,g1,g2]) rfl ⟨ret_vx (u:=tV (n != 0)) HE.out.2 HE.out.1,Below.set3 (HB.out.trans (HB4.out.mono (by rw[HZ.out];omega))) (by omega) _ _ _⟩ | exact bodyPost_ret (v:= .tuple #[.agg #[.int .i64 1,.int .i64 (bi (decide (n < 0))),.string ⟨#[]⟩],.int .i64 0]) (by simp[results,Tryz.results66,go_sem,g0,g1,g2]) rfl ⟨ret_vx (u:=tV (decide (n < 0))) HE.out.2 HE.out.1,Below.set3 (HB.out.trans (HB4.out.mono (by rw[HZ.out];omega))) (by omega) _ _ _⟩ | exact bodyPost_ret (v:= .tuple #[.agg #[.int .i64 1,.int .i64 (bi (decide (n≤0))),.string ⟨#[]⟩],.int .i64 0]) (by simp[results,Tryz.results66,go_sem,g0,g1,g2]) rfl ⟨ret_vx (u:=tV (decide (n≤0))) HE.out.2 HE.out.1,Below.set3 (HB.out.trans (HB4.out.mono (by rw[HZ.out];omega))) (by omega) _ _ _⟩ | exact bodyPost_ret (v:= .tuple #[.agg #[.int .i64 1,.int .i64 (bi (decide (0 < n))),.string ⟨#[]⟩],.int .i64 0]) (by simp[results,Tryz.results66,go_sem,g0,g1,g2]) rfl ⟨ret_vx (u:=tV (decide (0 < n))) HE.out.2 HE.out.1,Below.set3 (HB.out.trans (HB4.out.mono (by rw[HZ.out];omega))) (by omega) _ _ _⟩ | exact bodyPost_ret (v:= .tuple #[.agg #[.int .i64 1,.int .i64 (bi (decide (0≤n))),.string ⟨#[]⟩],.int .i64 0]) (by simp[results,Tryz.results66,go_sem,g0,g1,g2]) rfl ⟨ret_vx (u:=tV (decide (0≤n))) HE.out.2 HE.out.1,Below.set3 (HB.out.trans (HB4.out.mono (by rw[HZ.out];omega))) (by omega) _ _ _⟩
end Go.Proofs.YtcicpjgnpcnnmaaGreatDoor.LG
