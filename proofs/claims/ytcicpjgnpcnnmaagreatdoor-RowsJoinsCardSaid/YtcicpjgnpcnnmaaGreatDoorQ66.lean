import Derived.Deep.CutRange
import Derived.Test.YtcicpjgnpcnnmaaGreatDoorQ43
import Derived.Test.YtcicpjgnpcnnmaaGreatDoorQ65
set_option maxRecDepth 100000
set_option maxHeartbeats 8000000
set_option linter.unusedSimpArgs false
set_option linter.unusedVariables false
namespace Go.Proofs.YtcicpjgnpcnnmaaGreatDoor
open Go.RowKit
open SC (HV VBox)
def KOk(KL:Nat→List Int)(xs:List BV.V)(k:Nat):Prop:=∀ i (h:i < xs.length),i < k→xs[i].k=0∨(KL i).contains xs[i].k=true
theorem nul_next{xs:List BV.V}{k:Nat}(h:k < xs.length):SC.nulB (xs.take (k+1))=(SC.nulB (xs.take k) || (xs[k].k == 0)):=by
 unfold SC.nulB;rw[List.take_succ_eq_append_getElem h,List.any_append]
 simp
def KT(KL:Nat→List Int)(xs:List BV.V)(r:BV.V)(er:Int)(w:World)(q:Ending)(w':World):Prop:=∃ R:BV.V,∃ e:Int,VR w R e q w'∧((KOk KL xs xs.length∧SC.nulB xs=true∧R=zW∧e=0)∨(KOk KL xs xs.length∧SC.nulB xs=false∧R=r∧e=er)∨(¬KOk KL xs xs.length∧R=zW∧e=20))
theorem rC_kinds(s:ByteArray)(xs:List BV.V)(lo hi:Int)(KL:Nat→List Int)(r:BV.V)(er:Int)(A:Option Addr)(c:Nat)(w:World)(hr:BV.RowAt w w.heap.size A xs)(hm:xs.length≤1000)
  (HA:∀ W,Calls Tryz.prog 109 #[.string s] W fun e w'=>e = .returned (.tuple #[.int .i64 lo,.int .i64 hi,.bool true])∧Below W.heap.size W w')
  (hc1:(s.toList == [99,111,97,108,101,115,99,101])=false)(hc2:(s.toList == [110,117,108,108,105,102])=false)
  (HK:∀ i,i < xs.length→∀ W,Calls Tryz.prog 112 #[.string s,.int .i64 (i:Int)] W fun e w'=>∃ n,e = .returned (.slice (some ⟨W.heap.size,0,none⟩) n n)∧n=(KL i).length∧n≤1000∧Nums3 w' W.heap.size (KL i)∧Below W.heap.size W w')
  (hok:BV.allOk xs=true)(ht1:lo≤(xs.length:Int))(ht2:(xs.length:Int)≤hi)(ht3:0≤hi)
  (HC:KOk KL xs xs.length→SC.nulB xs=false→∀ W,Below w.heap.size w W→Calls Tryz.prog 113 #[.string s,.slice A xs.length c] W (VR W r er)) :
  Calls Tryz.prog 63 #[.string s,.slice A xs.length c] w (KT KL xs r er w):=by
 obtain⟨n,hn⟩:∃ n,n=xs.length:=⟨_,rfl⟩;obtain⟨W1,hW1⟩:∃ W1,W1=w.alloc (.cells #[.int .i64 0,.int .i64 0,.string ⟨#[]⟩] 26):=⟨_,rfl⟩;have HH:Hid (HV w [(w.heap.size,zW)] W1):=Hi (by rw[hW1];exact(HV.nil w).push zW)
 have HMAY:=Hi (fun W (hb:Below w.heap.size w W)=>SC.rmay_any xs A c W (hr.later hb) (by omega))
 rw[hok]at HMAY;have HROW:=Hi hr;have HAA:=Hi HA;have HKK:=Hi HK;have HCC:=Hi HC;have HTK:Hid (xs.take n=xs):=Hi (by rw[hn,List.take_length])
 have HN:=Hi hn;have HW1:=Hi hW1;have HEND1:Hid (∀ W,KOk KL xs n→SC.nulB (xs.take n)=true→HV w [(w.heap.size,zW)] W→∀ q w',VR w zW 0 q w'→KT KL xs r er w q w'):=Hi fun W h1 h2 _ q w' h3=>⟨zW,0,h3,.inl ⟨hn ▸ h1,by rw[hn,List.take_length]at h2;exact h2,rfl,rfl⟩⟩
 have HEND2:Hid (KOk KL xs n→SC.nulB (xs.take n)=false→∀ q w',VR w r er q w'→KT KL xs r er w q w'):=Hi fun h1 h2 q w' h3=>⟨r,er,h3,.inr (.inl ⟨hn ▸ h1,by rw[hn,List.take_length]at h2;exact h2,rfl,rfl⟩)⟩
 have HEND3:Hid (∀ k (h:k < xs.length),xs[k].k≠0→(KL k).contains xs[k].k=false→∀ q w',VR w zW 20 q w'→KT KL xs r er w q w'):=Hi fun k h h1 h2 q w' h3=>⟨zW,20,h3,.inr (.inr ⟨fun hk=>by rcases hk k h h with h4 | h4;exact h1 h4;rw[h2]at h4;exact Bool.noConfusion h4,rfl,rfl⟩)⟩
 have hlz:¬(n:Int) < lo:=by omega
 have hlz2:lo≤(n:Int):=by omega
 have hgz:¬(n:Int) > hi:=by omega
 have hgz2:¬hi < (n:Int):=by omega
 have hhz:hi≥0:=ht3;rw[←hn]at HMAY HCC hm ⊢;clear hr HA HK HC hok hW1 ht1 ht2 hn;go_enter Tryz.func63,Tryz.ntmps63
 go_wp2_with (rw[←HW1.out])
 refine(HAA.out W1).mono ?_;rintro q w2 ⟨rfl,b2⟩;have H2:=Hi (HH.out.call b2);clear b2 HH HAA;go_wp2_with fail;refine(HMAY.out w2 H2.out.below).mono ?_;rintro q w3 ⟨rfl,b3⟩;have H3:=Hi (H2.out.call b3);clear b3 H2 HMAY;go_wp2_with fail
 go_loopw [73,11] (fun iv nv wr=>∃ (k:Nat) (nb:Bool),k≤n∧iv = .int .i64 (k:Int)∧nv = .bool nb∧Hid (SC.nulB (xs.take k)=nb)∧Hid (KOk KL xs k)∧Hid (HV w [(w.heap.size,zW)] wr)) (fun iv _ _=>n - (intOf iv).toNat)
 case atStart=>exact⟨0,false,Nat.zero_le _,rfl,rfl,Hi rfl,Hi (fun i _ h=>absurd h (Nat.not_lt_zero _)),H3⟩
 case round =>
  clear H3;obtain⟨k,nb,hk,rfl,rfl,HNB,HKO,HB⟩:=hrel
  by_cases hlt:k < n
  ·have hkx:k < xs.length:=by have:=HN.out;omega
   obtain⟨b,off,rfl,hbl,hcells⟩:=HROW.out (by omega)
   obtain⟨e0,e1,e2⟩:=hcells k hkx;have i0:=(HB.out.below.cell (p:=⟨b,_,none⟩) hbl).trans e0;have i1:=(HB.out.below.cell (p:=⟨b,_,none⟩) hbl).trans e1;have i2:=(HB.out.below.cell (p:=⟨b,_,none⟩) hbl).trans e2;obtain⟨W4,hW4⟩:∃ W4,W4=wr.alloc (.cells #[.int .i64 xs[k].k,.int .i64 xs[k].i,.string xs[k].s] 26):=⟨_,rfl⟩;have H4:Hid (HV w [(wr.heap.size,xs[k]),(w.heap.size,zW)] W4):=Hi (by rw[hW4];exact HB.out.push xs[k])
   obtain⟨v0,v1,v2⟩:=H4.out.box.cells;have HW4:=Hi hW4;have hkz:(k:Int) < (n:Int):=by omega
   have HNX:=Hi (nul_next hkx)
   have HKN:Hid ((xs[k].k=0∨(KL k).contains xs[k].k=true)→KOk KL xs (k+1)):=Hi fun h i hi hik=>by
    rcases Nat.lt_or_eq_of_le (Nat.le_of_lt_succ hik)with g | g
    ·exact HKO.out i hi g
    ·subst g;exact h
   have HE3:=Hi (HEND3.out k hkx);have HK1:=Hi (HKK.out k hkx);generalize hv:xs[k]=v at *;clear e0 e1 e2 hW4 hcells hbl hv;dsimp only at v0 v1 v2
   by_cases hk0:v.k=0
   ·have hb0:(v.k == 0)=true:=by simpa using hk0
    have hb1:(v.k != 0)=false:=by simpa using hk0
    have HNX2:Hid (SC.nulB (xs.take (k+1))=true):=Hi (by rw[HNX.out,hb0,Bool.or_true])
    have HKN2:=Hi (HKN.out (.inl hk0));have HB2:=Hi H4.out.tail;clear hk0 HKN HNX HE3 HK1;cases nb
    all_goals
     go_wp2_with (rw[←HW4.out])
     go_quiet (fail)
     go_wp2_with fail
     go_roundw
     case rel=>exact⟨k+1,true,by omega,by go_num,rfl,HNX2,HKN2,Hi (HB2.out.drewN _)⟩
     case measure=>simp[intOf];omega
   ·have hb0:(v.k == 0)=false:=by simpa using hk0
    have hb1:(v.k != 0)=true:=by simpa using hk0
    have HNX2:Hid (SC.nulB (xs.take (k+1))=nb):=Hi (by rw[HNX.out,hb0,Bool.or_false];exact HNB.out)
    obtain⟨G,hG⟩:∃ G,(KL k).contains v.k=G:=⟨_,rfl⟩;have HG:=Hi hG;have KP:Hid (∀ w',Below W4.heap.size W4 w'→(Below W4.heap.size W4 w'∧w'.cell? ⟨wr.heap.size,0,none⟩=some (.int .i64 v.k)∧True)):=Hi fun w' hb=>⟨hb,(H4.out.call hb).box.cells.1,trivial⟩
    have HH4:=H4;have HNE:=Hi hk0;clear hk0 HNX hG HNB;cases nb
    all_goals
     go_wp2_with (rw[←HW4.out])
     go_cut [95] (fun v wx=>v = .bool (!G)∧Hid (HV w [(w.heap.size,zW)] wx))
     case first =>
      have BB:=Hi (Below.refl W4.heap.size W4);have SS:=Hi (KP.out W4 BB.out)
      go_region_held3 (fun w'=>Below W4.heap.size W4 w'∧w'.cell? ⟨wr.heap.size,0,none⟩=some (.int .i64 v.k)∧True) ((refine KP.out _ ?_;(repeat(first | with_reducible exact BB.out | with_reducible refine bel_drewE ?_ | with_reducible refine bel_allocE ?_ _)))) ((first
       | (go_at_call 112;(with_reducible refine(HK1.out _).mono ?_;rintro q w5 ⟨m5,rfl,rfl,hm6,HN5,b5⟩;(try simp only[World.size_drew]at HN5);have BB:=Hi (bthA (bel_drewE (Below.refl _ W4)) b5);clear b5))
       | (go_at_call 111;(with_reducible refine(has_any _ _ _ _ _ _ HN5 rfl hm6).mono ?_;rintro q w6 ⟨rfl,b6⟩;have BB:=Hi (bthA BB.out b6);clear b6))))
      all_goals (go_wp2_with fail;go_meet;exact⟨by rw[←HG.out];simp,Hi (HH4.out.call BB.out).tail⟩)
     case rest =>
      obtain⟨rfl,HB2⟩:=hcut;cases hgg:G
      ·have HGF:=Hi (HE3.out HNE.out (HG.out.trans hgg))
       obtain⟨g0,g1,g2⟩:=HB2.out.box.cells;obtain⟨k0,k1,k2⟩:=HB2.out.box.free;simp only[zW]at g0 g1 g2;subst hgg;clear HKN HE3;go_wp2_with fail;exact bodyPost_ret (v:= .tuple #[.agg #[.int .i64 0,.int .i64 0,.string ⟨#[]⟩],.int .i64 20]) (by simp[results,Tryz.results63,go_sem,g0,g1,g2]) rfl (HGF.out _ _ ⟨rfl,vset3 HB2.out.below (Nat.le_refl _) _ _ _⟩)
      ·have HKN2:=Hi (HKN.out (.inr (HG.out.trans hgg)))
       subst hgg;clear HKN HE3;go_wp2_with fail
       go_roundw
       case rel=>exact⟨k+1,_,by omega,by go_num,rfl,HNX2,HKN2,HB2⟩
       case measure=>simp[intOf];omega
  ·obtain rfl:n=k:=by omega
   cases nb
   ·have HF:=Hi (HEND2.out HKO.out HNB.out)
    have HX:=Hi (HCC.out HKO.out (by rw[←HTK.out];exact HNB.out) wr HB.out.below)
    clear HEND1 HEND2 HEND3 HCC HKK;go_wp2_with fail;refine HX.out.mono ?_;rintro q w9 ⟨rfl,b9⟩;have H9:=Hi (HB.out.call b9);obtain⟨g0,g1,g2⟩:=H9.out.box.cells;obtain⟨k0,k1,k2⟩:=H9.out.box.free;simp only[zW]at g0 g1 g2;clear b9 HX;go_wp2_with fail;exact bodyPost_ret (v:= .tuple #[.agg #[.int .i64 r.k,.int .i64 r.i,.string r.s],.int .i64 er]) (by simp[results,Tryz.results63,go_sem,g0,g1,g2]) rfl (HF.out _ _ ⟨rfl,vset3 H9.out.below (Nat.le_refl _) _ _ _⟩)
   ·have HF:=Hi (HEND1.out wr HKO.out HNB.out HB.out)
    obtain⟨g0,g1,g2⟩:=HB.out.box.cells;obtain⟨k0,k1,k2⟩:=HB.out.box.free;simp only[zW]at g0 g1 g2;clear HEND1 HEND2 HEND3 HCC HKK;go_wp2_with fail;exact bodyPost_ret (v:= .tuple #[.agg #[.int .i64 0,.int .i64 0,.string ⟨#[]⟩],.int .i64 0]) (by simp[results,Tryz.results63,go_sem,g0,g1,g2]) rfl (HF.out _ _ ⟨rfl,vset3 HB.out.below (Nat.le_refl _) _ _ _⟩)
theorem kt_vr{KL:Nat→List Int}{xs:List BV.V}{r:BV.V}{er:Int}{w:World}{q:Ending}{w':World}(h:KT KL xs r er w q w'){ks:List Int}(hk:KOk KL xs xs.length↔SC.okK ks xs=true){R:Ans}(h1:SC.okK ks xs=false→R=(20,zW))(h2:SC.okK ks xs=true→SC.nulB xs=true→R=(0,zW))(h3:SC.okK ks xs=true→SC.nulB xs=false→R=(er,r)):VR w R.2 R.1 q w':=by
 obtain⟨T,e,hv,⟨a,b,rfl,rfl⟩ | ⟨a,b,rfl,rfl⟩ | ⟨a,rfl,rfl⟩⟩:=h
 ·rw[h2 (hk.1 a) b];exact hv
 ·rw[h3 (hk.1 a) b];exact hv
 ·rw[h1 (by cases hq:SC.okK ks xs;rfl;exact absurd (hk.2 hq) a)];exact hv
theorem rC_bad(s:ByteArray)(xs:List BV.V)(lo hi:Int)(is:Bool)(A:Option Addr)(c:Nat)(w:World)(hr:BV.RowAt w w.heap.size A xs)(hm:xs.length≤1000)
  (HA:∀ W,Calls Tryz.prog 109 #[.string s] W fun e w'=>e = .returned (.tuple #[.int .i64 lo,.int .i64 hi,.bool is])∧Below W.heap.size W w')
  (hbad:BV.allOk xs=false∨is=false∨(xs.length:Int) < lo∨(0≤hi∧hi < (xs.length:Int))) :
  Calls Tryz.prog 63 #[.string s,.slice A xs.length c] w (VR w zW 1):=by
 obtain⟨W1,hW1⟩:∃ W1,W1=w.alloc (.cells #[.int .i64 0,.int .i64 0,.string ⟨#[]⟩] 26):=⟨_,rfl⟩;have HH:Hid (HV w [(w.heap.size,zW)] W1):=Hi (by rw[hW1];exact(HV.nil w).push zW)
 have HMAY:=Hi (fun W (hb:Below w.heap.size w W)=>SC.rmay_any xs A c W (hr.later hb) (by omega))
 have HAA:=Hi HA;have HW1:=Hi hW1;generalize BV.allOk xs=ok at *;generalize xs.length=n at *
 have hcase:ok=false∨(ok=true∧is=false)∨(ok=true∧is=true∧(n:Int) < lo)∨(ok=true∧is=true∧¬(n:Int) < lo∧0≤hi∧hi < (n:Int)):=by
  cases ok <;> cases is <;> simp at hbad ⊢
  omega
 clear hr HA hW1 hbad;rcases hcase with rfl | ⟨rfl,rfl⟩ | ⟨rfl,rfl,h1⟩ | ⟨rfl,rfl,h1,h2,h3⟩
 all_goals
  (try have h3g:(n:Int) > hi:=h3)
  (try have h2g:hi≥0:=h2)
  go_enter Tryz.func63,Tryz.ntmps63
  go_wp2_with (rw[←HW1.out])
  refine(HAA.out W1).mono ?_;rintro q w2 ⟨rfl,b2⟩;have H2:=Hi (HH.out.call b2);clear b2 HH HAA;go_wp2_with fail;refine(HMAY.out w2 H2.out.below).mono ?_;rintro q w3 ⟨rfl,b3⟩;have H3:=Hi (H2.out.call b3);obtain⟨g0,g1,g2⟩:=H3.out.box.cells;obtain⟨k0,k1,k2⟩:=H3.out.box.free;simp only[zW]at g0 g1 g2;clear b3 H2 HMAY;go_wp2_with fail;exact bodyPost_ret (v:= .tuple #[.agg #[.int .i64 0,.int .i64 0,.string ⟨#[]⟩],.int .i64 1]) (by simp[results,Tryz.results63,go_sem,g0,g1,g2]) rfl ⟨rfl,vset3 H3.out.below (Nat.le_refl _) _ _ _⟩
theorem firstV_dr{xs:List BV.V}{k:Nat}(h:k < xs.length):firstV (xs.drop k)=if xs[k].k=0 then firstV (xs.drop (k+1))else xs[k]:=by
 rw[List.drop_eq_getElem_cons h]
 rfl
theorem rC_coalesce(xs:List BV.V)(A:Option Addr)(c:Nat)(w:World)(hr:BV.RowAt w w.heap.size A xs)(hm:xs.length≤1000)(hok:BV.allOk xs=true)(h1:1≤xs.length) :
  Calls Tryz.prog 63 #[.string ⟨#[99,111,97,108,101,115,99,101]⟩,.slice A xs.length c] w (VR w (firstV xs) 0):=by
 obtain⟨n,hn⟩:∃ n,n=xs.length:=⟨_,rfl⟩;obtain⟨W1,hW1⟩:∃ W1,W1=w.alloc (.cells #[.int .i64 0,.int .i64 0,.string ⟨#[]⟩] 26):=⟨_,rfl⟩;have HH:Hid (HV w [(w.heap.size,zW)] W1):=Hi (by rw[hW1];exact(HV.nil w).push zW)
 have HMAY:=Hi (fun W (hb:Below w.heap.size w W)=>SC.rmay_any xs A c W (hr.later hb) (by omega))
 rw[hok]at HMAY;have HROW:=Hi hr;have HN:=Hi hn;have HW1:=Hi hW1;obtain⟨R,hR⟩:∃ R,firstV xs=R:=⟨_,rfl⟩;have H0:Hid (firstV (xs.drop 0)=R):=Hi (by rw[List.drop_zero];exact hR)
 rw[hR];rw[←hn]at HMAY hm h1 ⊢;have hlz:¬(n:Int) < 1:=by omega
 clear hr hok hW1 hn hR;go_enter Tryz.func63,Tryz.ntmps63
 go_wp2_with (rw[←HW1.out])
 refine(ar_coalesce W1).mono ?_;rintro q w2 ⟨rfl,b2⟩;have H2:=Hi (HH.out.call b2);clear b2 HH;go_wp2_with fail;refine(HMAY.out w2 H2.out.below).mono ?_;rintro q w3 ⟨rfl,b3⟩;have H3:=Hi (H2.out.call b3);clear b3 H2 HMAY;go_wp2_with fail
 go_loopw [48] (fun iv wr=>∃ (k:Nat),k≤n∧iv = .int .i64 (k:Int)∧Hid (firstV (xs.drop k)=R)∧Hid (HV w [(w.heap.size,zW)] wr)) (fun iv _=>n - (intOf iv).toNat)
 case atStart=>exact⟨0,Nat.zero_le _,rfl,H0,H3⟩
 case round =>
  clear H3 H0;obtain⟨k,hk,rfl,HF,HB⟩:=hrel
  by_cases hlt:k < n
  ·have hkx:k < xs.length:=by have:=HN.out;omega
   obtain⟨b,off,rfl,hbl,hcells⟩:=HROW.out (by omega)
   obtain⟨e0,e1,e2⟩:=hcells k hkx;have i0:=(HB.out.below.cell (p:=⟨b,_,none⟩) hbl).trans e0;have i1:=(HB.out.below.cell (p:=⟨b,_,none⟩) hbl).trans e1;have i2:=(HB.out.below.cell (p:=⟨b,_,none⟩) hbl).trans e2;obtain⟨W4,hW4⟩:∃ W4,W4=wr.alloc (.cells #[.int .i64 xs[k].k,.int .i64 xs[k].i,.string xs[k].s] 26):=⟨_,rfl⟩;have H4:Hid (HV w [(wr.heap.size,xs[k]),(w.heap.size,zW)] W4):=Hi (by rw[hW4];exact HB.out.push xs[k])
   obtain⟨v0,v1,v2⟩:=H4.out.box.cells;have HW4:=Hi hW4;have hkz:(k:Int) < (n:Int):=by omega
   have HNX:=Hi ((firstV_dr hkx).symm.trans HF.out);generalize hv:xs[k]=v at *;clear e0 e1 e2 hW4 hcells hbl hv;dsimp only at v0 v1 v2
   by_cases hk0:v.k=0
   ·have hb1:(v.k != 0)=false:=by simpa using hk0
    have HF2:Hid (firstV (xs.drop (k+1))=R):=Hi (by have:=HNX.out;rwa [if_pos hk0]at this)
    have HB2:=Hi H4.out.tail;clear hk0 HNX
    go_wp2_with (rw[←HW4.out])
    go_roundw
    case rel=>exact⟨k+1,by omega,by go_num,HF2,HB2⟩
    case measure=>simp[intOf];omega
   ·have hb1:(v.k != 0)=true:=by simpa using hk0
    have HF2:Hid (v=R):=Hi (by have:=HNX.out;rwa [if_neg hk0]at this)
    obtain⟨g0,g1,g2⟩:=H4.out.tail.box.cells;obtain⟨k0,k1,k2⟩:=H4.out.tail.box.free;simp only[zW]at g0 g1 g2;clear hk0 HNX
    go_wp2_with (rw[←HW4.out])
    exact bodyPost_ret (v:= .tuple #[.agg #[.int .i64 v.k,.int .i64 v.i,.string v.s],.int .i64 0]) (by simp[results,Tryz.results63,go_sem,g0,g1,g2]) rfl ⟨by rw[HF2.out],vset3 H4.out.below (Nat.le_refl _) _ _ _⟩
  ·obtain rfl:n=k:=by omega
   have HF2:Hid (zW=R):=Hi (by have h:=HF.out;rw[List.drop_eq_nil_of_le (by have:=HN.out;omega)]at h;exact h)
   obtain⟨g0,g1,g2⟩:=HB.out.box.cells;obtain⟨k0,k1,k2⟩:=HB.out.box.free;simp only[zW]at g0 g1 g2;go_wp2_with fail;exact bodyPost_ret (v:= .tuple #[.agg #[.int .i64 0,.int .i64 0,.string ⟨#[]⟩],.int .i64 0]) (by simp[results,Tryz.results63,go_sem,g0,g1,g2]) rfl ⟨by rw[←HF2.out];rfl,vset3 HB.out.below (Nat.le_refl _) _ _ _⟩
theorem rC_nullif(xs:List BV.V)(a b:BV.V)(A:Option Addr)(c:Nat)(w:World)(hr:BV.RowAt w w.heap.size A xs)(hx:xs = [a,b])(hok:BV.allOk xs=true) :
  Calls Tryz.prog 63 #[.string ⟨#[110,117,108,108,105,102]⟩,.slice A 2 c] w (VR w (dNullif a b).2 0):=by
 subst hx;obtain⟨W1,hW1⟩:∃ W1,W1=w.alloc (.cells #[.int .i64 0,.int .i64 0,.string ⟨#[]⟩] 26):=⟨_,rfl⟩;have HH:Hid (HV w [(w.heap.size,zW)] W1):=Hi (by rw[hW1];exact(HV.nil w).push zW)
 have HMAY:=Hi (fun W (hb:Below w.heap.size w W)=>SC.rmay_any [a,b] A c W (hr.later hb) (by simp))
 rw[hok]at HMAY;simp only[List.length_cons,List.length_nil,Nat.zero_add,Nat.reduceAdd]at HMAY;obtain⟨g,off,rfl,hgl,hcells⟩:=hr (by simp)
 have HC0:=Hi (fun W (hb:Below w.heap.size w W)=>(show BV.CellsAt W g off a from by
  have h:=hcells 0 (by simp)
  simp only[Nat.zero_mul,Nat.add_zero]at h;exact⟨(hb.cell (p:=⟨g,_,none⟩) hgl).trans h.1,(hb.cell (p:=⟨g,_,none⟩) hgl).trans h.2.1,(hb.cell (p:=⟨g,_,none⟩) hgl).trans h.2.2⟩))
 have HC1:=Hi (fun W (hb:Below w.heap.size w W)=>(show BV.CellsAt W g (off+3) b from by
  have h:=hcells 1 (by simp)
  exact⟨(hb.cell (p:=⟨g,_,none⟩) hgl).trans h.1,(hb.cell (p:=⟨g,_,none⟩) hgl).trans h.2.1,(hb.cell (p:=⟨g,_,none⟩) hgl).trans h.2.2⟩))
 have HW1:=Hi hW1;have HS:=Hi (fun W=>BV.rsame_any a.k a.i b.k b.i a.s b.s W)
 have HRES:Hid ((dNullif a b).2=if BV.sameB a.k a.i a.s b.k b.i b.s=true then zW else a):=Hi rfl
 generalize (dNullif a b).2=R at *;generalize BV.sameB a.k a.i a.s b.k b.i b.s=sb at *;clear hr hok hW1 hcells;cases sb
 all_goals
  go_enter Tryz.func63,Tryz.ntmps63
  go_wp2_with (rw[←HW1.out])
  refine(ar_nullif W1).mono ?_;rintro q w2 ⟨rfl,b2⟩;have H2:=Hi (HH.out.call b2);clear b2 HH;go_wp2_with fail;refine(HMAY.out w2 H2.out.below).mono ?_;rintro q w3 ⟨rfl,b3⟩;have H3:=Hi (H2.out.call b3);clear b3 H2 HMAY;go_wp2_with fail;have HNE:Nonempty (LTT w3):=⟨⟨w3,Below.refl _ _⟩⟩;have D0:=Hi (fun(x:LTT w3)=>HC0.out x.1 (bthA H3.out.below x.2))
  have D1:=Hi (fun(x:LTT w3)=>HC1.out x.1 (bthA H3.out.below x.2))
  have d0:=fun x=>(D0.out x).1
  have d1:=fun x=>(D0.out x).2.1
  have d2:=fun x=>(D0.out x).2.2
  have e0:=fun x=>(D1.out x).1
  have e1:=fun x=>(D1.out x).2.1
  have e2:=fun x=>(D1.out x).2.2
  simp only[Nat.add_assoc,Nat.reduceAdd]at e1 e2;refine wp_region_classR (fun w'=>∃ x:LTT w3,w'=x.1) (by kernel_rfl) (by kernel_rfl) ⟨⟨_,(Below.refl _ w3).drew⟩,rfl⟩ ?_
  repeat(go_big_quiet_step ((rename_i x;(go_at_call 69;refine(HS.out _).mono ?_;rintro e w5 ⟨rfl,hb⟩;exact⟨rfl,⟨_,bthA x.2 hb⟩,rfl⟩))))
  refine wpQuiet_nil ?_;rintro Wc ⟨⟨W5,h5⟩,rfl⟩;have H5:=Hi (H3.out.call h5);obtain⟨m0,m1,m2⟩:=HC0.out _ H5.out.below;obtain⟨g0,g1,g2⟩:=H5.out.box.cells;obtain⟨k0,k1,k2⟩:=H5.out.box.free;simp only[zW]at g0 g1 g2;clear d0 d1 d2 e0 e1 e2 D0 D1 HNE h5;go_wp2_with fail
 ·exact bodyPost_ret (v:= .tuple #[.agg #[.int .i64 a.k,.int .i64 a.i,.string a.s],.int .i64 0]) (by simp[results,Tryz.results63,go_sem,g0,g1,g2]) rfl ⟨by rw[HRES.out];rfl,vset3 H5.out.below (Nat.le_refl _) _ _ _⟩
 ·exact bodyPost_ret (v:= .tuple #[.agg #[.int .i64 0,.int .i64 0,.string ⟨#[]⟩],.int .i64 0]) (by simp[results,Tryz.results63,go_sem,g0,g1,g2]) rfl ⟨by rw[HRES.out];rfl,vset3 H5.out.below (Nat.le_refl _) _ _ _⟩
end Go.Proofs.YtcicpjgnpcnnmaaGreatDoor
namespace Go.Proofs.YtcicpjgnpcnnmaaGreatDoor
open Go.RowKit
theorem kok1{KL:Nat→List Int}{a:BV.V}:KOk KL [a] 1↔(a.k=0∨(KL 0).contains a.k=true) :=
 ⟨fun h=>h 0 (by simp) (by omega),fun h i hi hik=>by
  have hi0:i=0:=by omega
  subst hi0;exact h⟩
theorem kok2{KL:Nat→List Int}{a b:BV.V}:KOk KL [a,b] 2↔((a.k=0∨(KL 0).contains a.k=true)∧(b.k=0∨(KL 1).contains b.k=true)) :=
 ⟨fun h=>⟨h 0 (by simp) (by omega),h 1 (by simp) (by omega)⟩,fun h i hi hik=>by
  have:i=0∨i=1:=by omega
  rcases this with rfl | rfl
  ·exact h.1
  ·exact h.2⟩
theorem kok3{KL:Nat→List Int}{a b c:BV.V}:KOk KL [a,b,c] 3↔((a.k=0∨(KL 0).contains a.k=true)∧(b.k=0∨(KL 1).contains b.k=true)∧(c.k=0∨(KL 2).contains c.k=true)) :=
 ⟨fun h=>⟨h 0 (by simp) (by omega),h 1 (by simp) (by omega),h 2 (by simp) (by omega)⟩,fun h i hi hik=>by
  have:i=0∨i=1∨i=2:=by omega
  rcases this with rfl | rfl | rfl
  ·exact h.1
  ·exact h.2.1
  ·exact h.2.2⟩
theorem empR{s:ByteArray}(h:BV.emp s=true):s=⟨#[]⟩:=by
 unfold BV.emp at h;rw[Lib.toList_data,List.isEmpty_iff]at h;exact ba_ext h
theorem may_num{a:BV.V}(h:a.chk=0)(hk:a.k=2):a.s=⟨#[]⟩:=by
 rw[chk_iff]at h;unfold BV.mayB at h
 simp[hk]at h
 exact empR h
theorem may_txt{a:BV.V}(h:a.chk=0)(hk:a.k=3∨a.k=4):a.i=0:=by
 rw[chk_iff]at h;unfold BV.mayB at h;rcases hk with hk | hk <;> simpa [hk]using h
theorem lk_coalesce:∃ x:SC.Fn,SC.look (str fCoalesce)=some x∧x.lo=1∧x.hi=(-1)∧x.k0=0∧x.k1=0∧x.k2=0:=by
 refine⟨_,by unfold SC.look SC.fns;simp only[Lib.toList_data];rfl,rfl,rfl,rfl,rfl,rfl⟩
theorem lk_nullif:∃ x:SC.Fn,SC.look (str fNullif)=some x∧x.lo=2∧x.hi=2∧x.k0=0∧x.k1=0∧x.k2=0:=by
 refine⟨_,by unfold SC.look SC.fns;simp only[Lib.toList_data];rfl,rfl,rfl,rfl,rfl,rfl⟩
theorem lk_abs:∃ x:SC.Fn,SC.look (str fAbs)=some x∧x.lo=1∧x.hi=1∧x.k0=4∧x.k1=0∧x.k2=0:=by
 refine⟨_,by unfold SC.look SC.fns;simp only[Lib.toList_data];rfl,rfl,rfl,rfl,rfl,rfl⟩
theorem lk_sign:∃ x:SC.Fn,SC.look (str fSign)=some x∧x.lo=1∧x.hi=1∧x.k0=4∧x.k1=0∧x.k2=0:=by
 refine⟨_,by unfold SC.look SC.fns;simp only[Lib.toList_data];rfl,rfl,rfl,rfl,rfl,rfl⟩
theorem lk_length:∃ x:SC.Fn,SC.look (str fLength)=some x∧x.lo=1∧x.hi=1∧x.k0=24∧x.k1=0∧x.k2=0:=by
 refine⟨_,by unfold SC.look SC.fns;simp only[Lib.toList_data];rfl,rfl,rfl,rfl,rfl,rfl⟩
theorem lk_lower:∃ x:SC.Fn,SC.look (str fLower)=some x∧x.lo=1∧x.hi=1∧x.k0=8∧x.k1=0∧x.k2=0:=by
 refine⟨_,by unfold SC.look SC.fns;simp only[Lib.toList_data];rfl,rfl,rfl,rfl,rfl,rfl⟩
theorem lk_upper:∃ x:SC.Fn,SC.look (str fUpper)=some x∧x.lo=1∧x.hi=1∧x.k0=8∧x.k1=0∧x.k2=0:=by
 refine⟨_,by unfold SC.look SC.fns;simp only[Lib.toList_data];rfl,rfl,rfl,rfl,rfl,rfl⟩
theorem lk_trim:∃ x:SC.Fn,SC.look (str fTrim)=some x∧x.lo=1∧x.hi=1∧x.k0=8∧x.k1=0∧x.k2=0:=by
 refine⟨_,by unfold SC.look SC.fns;simp only[Lib.toList_data];rfl,rfl,rfl,rfl,rfl,rfl⟩
theorem lk_substr:∃ x:SC.Fn,SC.look (str fSubstr)=some x∧x.lo=3∧x.hi=3∧x.k0=24∧x.k1=4∧x.k2=4:=by
 refine⟨_,by unfold SC.look SC.fns;simp only[Lib.toList_data];rfl,rfl,rfl,rfl,rfl,rfl⟩
theorem lk_instr:∃ x:SC.Fn,SC.look (str fInstr)=some x∧x.lo=2∧x.hi=2∧x.k0=8∧x.k1=8∧x.k2=0:=by
 refine⟨_,by unfold SC.look SC.fns;simp only[Lib.toList_data];rfl,rfl,rfl,rfl,rfl,rfl⟩
theorem lk_replace:∃ x:SC.Fn,SC.look (str fReplace)=some x∧x.lo=3∧x.hi=3∧x.k0=8∧x.k1=8∧x.k2=8:=by
 refine⟨_,by unfold SC.look SC.fns;simp only[Lib.toList_data];rfl,rfl,rfl,rfl,rfl,rfl⟩
theorem rK_coalesce(xs:List BV.V)(A:Option Addr)(c:Nat)(w:World)(hr:BV.RowAt w w.heap.size A xs)(hm:xs.length≤1000)(hI:∀ v∈xs,I64 v∧v.s.size≤100000000) :
  Calls Tryz.prog 63 #[.string ⟨#[99,111,97,108,101,115,99,101]⟩,.slice A xs.length c] w (VR w (callP fCoalesce xs).2 (callP fCoalesce xs).1):=by
 obtain⟨x,hx,e1,e2,e3,e4,e5⟩:=lk_coalesce;have hcp:callP fCoalesce xs=callX fCoalesce x xs:=by unfold callP;rw[hx]
 rw[hcp];unfold callX;rw[e1,e2,e3,e4,e5]
 by_cases hb:SC.takesB 1 (-1) xs.length=false∨BV.allOk xs=false
 ·rw[if_pos hb]
  refine rC_bad _ xs 1 (-1) true A c w hr hm ar_coalesce ?_;rcases hb with hb | hb
  ·unfold SC.takesB at hb
   simp only[Bool.and_eq_false_iff,Bool.or_eq_false_iff,decide_eq_false_iff_not]at hb
   omega
  ·exact .inl hb
 rw[if_neg hb];have hok:BV.allOk xs=true:=by cases h:BV.allOk xs;exact absurd (.inr h) hb;rfl
 have htk:SC.takesB 1 (-1) xs.length=true:=by cases h:SC.takesB 1 (-1) xs.length;exact absurd (.inl h) hb;rfl
 unfold SC.takesB at htk;simp only[Bool.and_eq_true,Bool.or_eq_true,decide_eq_true_eq]at htk;rw[if_pos rfl];exact rC_coalesce xs A c w hr hm hok (by omega)
theorem rK_nullif(xs:List BV.V)(A:Option Addr)(c:Nat)(w:World)(hr:BV.RowAt w w.heap.size A xs)(hm:xs.length≤1000)(hI:∀ v∈xs,I64 v∧v.s.size≤100000000) :
  Calls Tryz.prog 63 #[.string ⟨#[110,117,108,108,105,102]⟩,.slice A xs.length c] w (VR w (callP fNullif xs).2 (callP fNullif xs).1):=by
 obtain⟨x,hx,e1,e2,e3,e4,e5⟩:=lk_nullif;have hcp:callP fNullif xs=callX fNullif x xs:=by unfold callP;rw[hx]
 rw[hcp];unfold callX;rw[e1,e2,e3,e4,e5]
 by_cases hb:SC.takesB 2 2 xs.length=false∨BV.allOk xs=false
 ·rw[if_pos hb]
  refine rC_bad _ xs 2 2 true A c w hr hm ar_nullif ?_;rcases hb with hb | hb
  ·unfold SC.takesB at hb
   simp only[Bool.and_eq_false_iff,Bool.or_eq_false_iff,decide_eq_false_iff_not]at hb
   omega
  ·exact .inl hb
 rw[if_neg hb];have hok:BV.allOk xs=true:=by cases h:BV.allOk xs;exact absurd (.inr h) hb;rfl
 have htk:SC.takesB 2 2 xs.length=true:=by cases h:SC.takesB 2 2 xs.length;exact absurd (.inl h) hb;rfl
 unfold SC.takesB at htk;simp only[Bool.and_eq_true,Bool.or_eq_true,decide_eq_true_eq]at htk;have hlen:xs.length=2:=by omega
 obtain⟨a,b,rfl⟩:∃ a b,xs = [a,b]:=by
  match xs,hlen with
  | [a,b],_=>exact⟨a,b,rfl⟩
 rw[if_pos rfl];exact rC_nullif [a,b] a b A c w hr rfl hok
theorem rK_abs(xs:List BV.V)(A:Option Addr)(c:Nat)(w:World)(hr:BV.RowAt w w.heap.size A xs)(hm:xs.length≤1000)(hI:∀ v∈xs,I64 v∧v.s.size≤100000000) :
  Calls Tryz.prog 63 #[.string ⟨#[97,98,115]⟩,.slice A xs.length c] w (VR w (callP fAbs xs).2 (callP fAbs xs).1):=by
 obtain⟨x,hx,e1,e2,e3,e4,e5⟩:=lk_abs;have hcp:callP fAbs xs=callX fAbs x xs:=by unfold callP;rw[hx]
 rw[hcp];unfold callX;rw[e1,e2,e3,e4,e5]
 by_cases hb:SC.takesB 1 1 xs.length=false∨BV.allOk xs=false
 ·rw[if_pos hb]
  refine rC_bad _ xs 1 1 true A c w hr hm ar_abs ?_;rcases hb with hb | hb
  ·unfold SC.takesB at hb
   simp only[Bool.and_eq_false_iff,Bool.or_eq_false_iff,decide_eq_false_iff_not]at hb
   omega
  ·exact .inl hb
 rw[if_neg hb];have hok:BV.allOk xs=true:=by cases h:BV.allOk xs;exact absurd (.inr h) hb;rfl
 have htk:SC.takesB 1 1 xs.length=true:=by cases h:SC.takesB 1 1 xs.length;exact absurd (.inl h) hb;rfl
 unfold SC.takesB at htk;simp only[Bool.and_eq_true,Bool.or_eq_true,decide_eq_true_eq]at htk;have hlen:xs.length=1:=by omega
 obtain⟨a,rfl⟩:∃ a,xs = [a]:=by
  match xs,hlen with
  | [a],_=>exact⟨a,rfl⟩
 rw[if_neg (by decide)]
 have hch:∀ v∈[a],v.chk=0:=fun v hv=>by
  have:=List.all_eq_true.1 hok v hv;exact beq_iff_eq.1 this
 have hkk:KOk (fun _=>[2]) [a] 1↔SC.okK [4,0,0] [a]=true:=by
  rw[kok1]
  simp[SC.okK,SC.fitsK]
 refine(rC_kinds _ [a] 1 1 (fun _=>[2]) (doP fAbs [a]).2 (doP fAbs [a]).1 A c w hr hm ar_abs (by rw[Lib.toList_data];rfl) (by rw[Lib.toList_data];rfl) (fun i _ W=>(kn_abs (i:Int) W).mono fun q w' h=>⟨1,h.1,rfl,by omega,h.2.1,h.2.2⟩) hok (by simp) (by simp) (by omega) (fun hK hN W hW => ?_)).mono fun q w' h=>kt_vr h (ks:=[4,0,0]) hkk (fun h=>by rw[if_pos h]) (fun h h2=>by rw[if_neg (by rw[h];decide),if_pos h2]) (fun h h2=>by rw[if_neg (by rw[h];decide),if_neg (by rw[h2];decide)])
 have hK:=kok1.1 hK
 simp[SC.nulB]at hN
 have hrW:=hr.later hW
 by_cases hi:0≤a.i
 ·have hd:doP fAbs [a]=(0,a):=by show dAbs a=_;unfold dAbs;rw[if_neg (by omega)]
  rw[hd];exact rc_abs0 a [a] A c W hrW (by simp) rfl hi
 ·have hd:doP fAbs [a]=dNeg a:=by show dAbs a=_;unfold dAbs;rw[if_pos (by omega)]
  rw[hd];exact rc_abs1 a [a] A c W hrW (by simp) rfl (by omega) (hI a (by simp)).1
theorem rK_sign(xs:List BV.V)(A:Option Addr)(c:Nat)(w:World)(hr:BV.RowAt w w.heap.size A xs)(hm:xs.length≤1000)(hI:∀ v∈xs,I64 v∧v.s.size≤100000000) :
  Calls Tryz.prog 63 #[.string ⟨#[115,105,103,110]⟩,.slice A xs.length c] w (VR w (callP fSign xs).2 (callP fSign xs).1):=by
 obtain⟨x,hx,e1,e2,e3,e4,e5⟩:=lk_sign;have hcp:callP fSign xs=callX fSign x xs:=by unfold callP;rw[hx]
 rw[hcp];unfold callX;rw[e1,e2,e3,e4,e5]
 by_cases hb:SC.takesB 1 1 xs.length=false∨BV.allOk xs=false
 ·rw[if_pos hb]
  refine rC_bad _ xs 1 1 true A c w hr hm ar_sign ?_;rcases hb with hb | hb
  ·unfold SC.takesB at hb
   simp only[Bool.and_eq_false_iff,Bool.or_eq_false_iff,decide_eq_false_iff_not]at hb
   omega
  ·exact .inl hb
 rw[if_neg hb];have hok:BV.allOk xs=true:=by cases h:BV.allOk xs;exact absurd (.inr h) hb;rfl
 have htk:SC.takesB 1 1 xs.length=true:=by cases h:SC.takesB 1 1 xs.length;exact absurd (.inl h) hb;rfl
 unfold SC.takesB at htk;simp only[Bool.and_eq_true,Bool.or_eq_true,decide_eq_true_eq]at htk;have hlen:xs.length=1:=by omega
 obtain⟨a,rfl⟩:∃ a,xs = [a]:=by
  match xs,hlen with
  | [a],_=>exact⟨a,rfl⟩
 rw[if_neg (by decide)]
 have hch:∀ v∈[a],v.chk=0:=fun v hv=>by
  have:=List.all_eq_true.1 hok v hv;exact beq_iff_eq.1 this
 have hkk:KOk (fun _=>[2]) [a] 1↔SC.okK [4,0,0] [a]=true:=by
  rw[kok1]
  simp[SC.okK,SC.fitsK]
 refine(rC_kinds _ [a] 1 1 (fun _=>[2]) (doP fSign [a]).2 (doP fSign [a]).1 A c w hr hm ar_sign (by rw[Lib.toList_data];rfl) (by rw[Lib.toList_data];rfl) (fun i _ W=>(kn_sign (i:Int) W).mono fun q w' h=>⟨1,h.1,rfl,by omega,h.2.1,h.2.2⟩) hok (by simp) (by simp) (by omega) (fun hK hN W hW => ?_)).mono fun q w' h=>kt_vr h (ks:=[4,0,0]) hkk (fun h=>by rw[if_pos h]) (fun h h2=>by rw[if_neg (by rw[h];decide),if_pos h2]) (fun h h2=>by rw[if_neg (by rw[h];decide),if_neg (by rw[h2];decide)])
 have hK:=kok1.1 hK
 simp[SC.nulB]at hN
 have hrW:=hr.later hW;have hk2:a.k=2:=by simpa [hN]using hK
 exact rc_sign a [a] A c W hrW (by simp) rfl hk2 (may_num (hch a (by simp)) hk2)
theorem rK_length(xs:List BV.V)(A:Option Addr)(c:Nat)(w:World)(hr:BV.RowAt w w.heap.size A xs)(hm:xs.length≤1000)(hI:∀ v∈xs,I64 v∧v.s.size≤100000000) :
  Calls Tryz.prog 63 #[.string ⟨#[108,101,110,103,116,104]⟩,.slice A xs.length c] w (VR w (callP fLength xs).2 (callP fLength xs).1):=by
 obtain⟨x,hx,e1,e2,e3,e4,e5⟩:=lk_length;have hcp:callP fLength xs=callX fLength x xs:=by unfold callP;rw[hx]
 rw[hcp];unfold callX;rw[e1,e2,e3,e4,e5]
 by_cases hb:SC.takesB 1 1 xs.length=false∨BV.allOk xs=false
 ·rw[if_pos hb]
  refine rC_bad _ xs 1 1 true A c w hr hm ar_length ?_;rcases hb with hb | hb
  ·unfold SC.takesB at hb
   simp only[Bool.and_eq_false_iff,Bool.or_eq_false_iff,decide_eq_false_iff_not]at hb
   omega
  ·exact .inl hb
 rw[if_neg hb];have hok:BV.allOk xs=true:=by cases h:BV.allOk xs;exact absurd (.inr h) hb;rfl
 have htk:SC.takesB 1 1 xs.length=true:=by cases h:SC.takesB 1 1 xs.length;exact absurd (.inl h) hb;rfl
 unfold SC.takesB at htk;simp only[Bool.and_eq_true,Bool.or_eq_true,decide_eq_true_eq]at htk;have hlen:xs.length=1:=by omega
 obtain⟨a,rfl⟩:∃ a,xs = [a]:=by
  match xs,hlen with
  | [a],_=>exact⟨a,rfl⟩
 rw[if_neg (by decide)]
 have hch:∀ v∈[a],v.chk=0:=fun v hv=>by
  have:=List.all_eq_true.1 hok v hv;exact beq_iff_eq.1 this
 have hkk:KOk (fun _=>[3,4]) [a] 1↔SC.okK [24,0,0] [a]=true:=by
  rw[kok1]
  simp[SC.okK,SC.fitsK]
 refine(rC_kinds _ [a] 1 1 (fun _=>[3,4]) (doP fLength [a]).2 (doP fLength [a]).1 A c w hr hm ar_length (by rw[Lib.toList_data];rfl) (by rw[Lib.toList_data];rfl) (fun i _ W=>(kn_length (i:Int) W).mono fun q w' h=>⟨2,h.1,rfl,by omega,h.2.1,h.2.2⟩) hok (by simp) (by simp) (by omega) (fun hK hN W hW => ?_)).mono fun q w' h=>kt_vr h (ks:=[24,0,0]) hkk (fun h=>by rw[if_pos h]) (fun h h2=>by rw[if_neg (by rw[h];decide),if_pos h2]) (fun h h2=>by rw[if_neg (by rw[h];decide),if_neg (by rw[h2];decide)])
 have hK:=kok1.1 hK
 simp[SC.nulB]at hN
 have hrW:=hr.later hW;exact rc_length a [a] A c W hrW (by simp) rfl (hI a (by simp)).2
theorem rK_lower(xs:List BV.V)(A:Option Addr)(c:Nat)(w:World)(hr:BV.RowAt w w.heap.size A xs)(hm:xs.length≤1000)(hI:∀ v∈xs,I64 v∧v.s.size≤100000000) :
  Calls Tryz.prog 63 #[.string ⟨#[108,111,119,101,114]⟩,.slice A xs.length c] w (VR w (callP fLower xs).2 (callP fLower xs).1):=by
 obtain⟨x,hx,e1,e2,e3,e4,e5⟩:=lk_lower;have hcp:callP fLower xs=callX fLower x xs:=by unfold callP;rw[hx]
 rw[hcp];unfold callX;rw[e1,e2,e3,e4,e5]
 by_cases hb:SC.takesB 1 1 xs.length=false∨BV.allOk xs=false
 ·rw[if_pos hb]
  refine rC_bad _ xs 1 1 true A c w hr hm ar_lower ?_;rcases hb with hb | hb
  ·unfold SC.takesB at hb
   simp only[Bool.and_eq_false_iff,Bool.or_eq_false_iff,decide_eq_false_iff_not]at hb
   omega
  ·exact .inl hb
 rw[if_neg hb];have hok:BV.allOk xs=true:=by cases h:BV.allOk xs;exact absurd (.inr h) hb;rfl
 have htk:SC.takesB 1 1 xs.length=true:=by cases h:SC.takesB 1 1 xs.length;exact absurd (.inl h) hb;rfl
 unfold SC.takesB at htk;simp only[Bool.and_eq_true,Bool.or_eq_true,decide_eq_true_eq]at htk;have hlen:xs.length=1:=by omega
 obtain⟨a,rfl⟩:∃ a,xs = [a]:=by
  match xs,hlen with
  | [a],_=>exact⟨a,rfl⟩
 rw[if_neg (by decide)]
 have hch:∀ v∈[a],v.chk=0:=fun v hv=>by
  have:=List.all_eq_true.1 hok v hv;exact beq_iff_eq.1 this
 have hkk:KOk (fun _=>[3]) [a] 1↔SC.okK [8,0,0] [a]=true:=by
  rw[kok1]
  simp[SC.okK,SC.fitsK]
 refine(rC_kinds _ [a] 1 1 (fun _=>[3]) (doP fLower [a]).2 (doP fLower [a]).1 A c w hr hm ar_lower (by rw[Lib.toList_data];rfl) (by rw[Lib.toList_data];rfl) (fun i _ W=>(kn_lower (i:Int) W).mono fun q w' h=>⟨1,h.1,rfl,by omega,h.2.1,h.2.2⟩) hok (by simp) (by simp) (by omega) (fun hK hN W hW => ?_)).mono fun q w' h=>kt_vr h (ks:=[8,0,0]) hkk (fun h=>by rw[if_pos h]) (fun h h2=>by rw[if_neg (by rw[h];decide),if_pos h2]) (fun h h2=>by rw[if_neg (by rw[h];decide),if_neg (by rw[h2];decide)])
 have hK:=kok1.1 hK
 simp[SC.nulB]at hN
 have hrW:=hr.later hW;exact rc_lower a [a] A c W hrW (by simp) rfl (hI a (by simp)).2
theorem rK_upper(xs:List BV.V)(A:Option Addr)(c:Nat)(w:World)(hr:BV.RowAt w w.heap.size A xs)(hm:xs.length≤1000)(hI:∀ v∈xs,I64 v∧v.s.size≤100000000) :
  Calls Tryz.prog 63 #[.string ⟨#[117,112,112,101,114]⟩,.slice A xs.length c] w (VR w (callP fUpper xs).2 (callP fUpper xs).1):=by
 obtain⟨x,hx,e1,e2,e3,e4,e5⟩:=lk_upper;have hcp:callP fUpper xs=callX fUpper x xs:=by unfold callP;rw[hx]
 rw[hcp];unfold callX;rw[e1,e2,e3,e4,e5]
 by_cases hb:SC.takesB 1 1 xs.length=false∨BV.allOk xs=false
 ·rw[if_pos hb]
  refine rC_bad _ xs 1 1 true A c w hr hm ar_upper ?_;rcases hb with hb | hb
  ·unfold SC.takesB at hb
   simp only[Bool.and_eq_false_iff,Bool.or_eq_false_iff,decide_eq_false_iff_not]at hb
   omega
  ·exact .inl hb
 rw[if_neg hb];have hok:BV.allOk xs=true:=by cases h:BV.allOk xs;exact absurd (.inr h) hb;rfl
 have htk:SC.takesB 1 1 xs.length=true:=by cases h:SC.takesB 1 1 xs.length;exact absurd (.inl h) hb;rfl
 unfold SC.takesB at htk;simp only[Bool.and_eq_true,Bool.or_eq_true,decide_eq_true_eq]at htk;have hlen:xs.length=1:=by omega
 obtain⟨a,rfl⟩:∃ a,xs = [a]:=by
  match xs,hlen with
  | [a],_=>exact⟨a,rfl⟩
 rw[if_neg (by decide)]
 have hch:∀ v∈[a],v.chk=0:=fun v hv=>by
  have:=List.all_eq_true.1 hok v hv;exact beq_iff_eq.1 this
 have hkk:KOk (fun _=>[3]) [a] 1↔SC.okK [8,0,0] [a]=true:=by
  rw[kok1]
  simp[SC.okK,SC.fitsK]
 refine(rC_kinds _ [a] 1 1 (fun _=>[3]) (doP fUpper [a]).2 (doP fUpper [a]).1 A c w hr hm ar_upper (by rw[Lib.toList_data];rfl) (by rw[Lib.toList_data];rfl) (fun i _ W=>(kn_upper (i:Int) W).mono fun q w' h=>⟨1,h.1,rfl,by omega,h.2.1,h.2.2⟩) hok (by simp) (by simp) (by omega) (fun hK hN W hW => ?_)).mono fun q w' h=>kt_vr h (ks:=[8,0,0]) hkk (fun h=>by rw[if_pos h]) (fun h h2=>by rw[if_neg (by rw[h];decide),if_pos h2]) (fun h h2=>by rw[if_neg (by rw[h];decide),if_neg (by rw[h2];decide)])
 have hK:=kok1.1 hK
 simp[SC.nulB]at hN
 have hrW:=hr.later hW;exact rc_upper a [a] A c W hrW (by simp) rfl (hI a (by simp)).2
theorem rK_trim(xs:List BV.V)(A:Option Addr)(c:Nat)(w:World)(hr:BV.RowAt w w.heap.size A xs)(hm:xs.length≤1000)(hI:∀ v∈xs,I64 v∧v.s.size≤100000000) :
  Calls Tryz.prog 63 #[.string ⟨#[116,114,105,109]⟩,.slice A xs.length c] w (VR w (callP fTrim xs).2 (callP fTrim xs).1):=by
 obtain⟨x,hx,e1,e2,e3,e4,e5⟩:=lk_trim;have hcp:callP fTrim xs=callX fTrim x xs:=by unfold callP;rw[hx]
 rw[hcp];unfold callX;rw[e1,e2,e3,e4,e5]
 by_cases hb:SC.takesB 1 1 xs.length=false∨BV.allOk xs=false
 ·rw[if_pos hb]
  refine rC_bad _ xs 1 1 true A c w hr hm ar_trim ?_;rcases hb with hb | hb
  ·unfold SC.takesB at hb
   simp only[Bool.and_eq_false_iff,Bool.or_eq_false_iff,decide_eq_false_iff_not]at hb
   omega
  ·exact .inl hb
 rw[if_neg hb];have hok:BV.allOk xs=true:=by cases h:BV.allOk xs;exact absurd (.inr h) hb;rfl
 have htk:SC.takesB 1 1 xs.length=true:=by cases h:SC.takesB 1 1 xs.length;exact absurd (.inl h) hb;rfl
 unfold SC.takesB at htk;simp only[Bool.and_eq_true,Bool.or_eq_true,decide_eq_true_eq]at htk;have hlen:xs.length=1:=by omega
 obtain⟨a,rfl⟩:∃ a,xs = [a]:=by
  match xs,hlen with
  | [a],_=>exact⟨a,rfl⟩
 rw[if_neg (by decide)]
 have hch:∀ v∈[a],v.chk=0:=fun v hv=>by
  have:=List.all_eq_true.1 hok v hv;exact beq_iff_eq.1 this
 have hkk:KOk (fun _=>[3]) [a] 1↔SC.okK [8,0,0] [a]=true:=by
  rw[kok1]
  simp[SC.okK,SC.fitsK]
 refine(rC_kinds _ [a] 1 1 (fun _=>[3]) (doP fTrim [a]).2 (doP fTrim [a]).1 A c w hr hm ar_trim (by rw[Lib.toList_data];rfl) (by rw[Lib.toList_data];rfl) (fun i _ W=>(kn_trim (i:Int) W).mono fun q w' h=>⟨1,h.1,rfl,by omega,h.2.1,h.2.2⟩) hok (by simp) (by simp) (by omega) (fun hK hN W hW => ?_)).mono fun q w' h=>kt_vr h (ks:=[8,0,0]) hkk (fun h=>by rw[if_pos h]) (fun h h2=>by rw[if_neg (by rw[h];decide),if_pos h2]) (fun h h2=>by rw[if_neg (by rw[h];decide),if_neg (by rw[h2];decide)])
 have hK:=kok1.1 hK
 simp[SC.nulB]at hN
 have hrW:=hr.later hW;exact rc_trim a [a] A c W hrW (by simp) rfl (hI a (by simp)).2
theorem rK_substr(xs:List BV.V)(A:Option Addr)(c:Nat)(w:World)(hr:BV.RowAt w w.heap.size A xs)(hm:xs.length≤1000)(hI:∀ v∈xs,I64 v∧v.s.size≤100000000) :
  Calls Tryz.prog 63 #[.string ⟨#[115,117,98,115,116,114]⟩,.slice A xs.length c] w (VR w (callP fSubstr xs).2 (callP fSubstr xs).1):=by
 obtain⟨x,hx,e1,e2,e3,e4,e5⟩:=lk_substr;have hcp:callP fSubstr xs=callX fSubstr x xs:=by unfold callP;rw[hx]
 rw[hcp];unfold callX;rw[e1,e2,e3,e4,e5]
 by_cases hb:SC.takesB 3 3 xs.length=false∨BV.allOk xs=false
 ·rw[if_pos hb]
  refine rC_bad _ xs 3 3 true A c w hr hm ar_substr ?_;rcases hb with hb | hb
  ·unfold SC.takesB at hb
   simp only[Bool.and_eq_false_iff,Bool.or_eq_false_iff,decide_eq_false_iff_not]at hb
   omega
  ·exact .inl hb
 rw[if_neg hb];have hok:BV.allOk xs=true:=by cases h:BV.allOk xs;exact absurd (.inr h) hb;rfl
 have htk:SC.takesB 3 3 xs.length=true:=by cases h:SC.takesB 3 3 xs.length;exact absurd (.inl h) hb;rfl
 unfold SC.takesB at htk;simp only[Bool.and_eq_true,Bool.or_eq_true,decide_eq_true_eq]at htk;have hlen:xs.length=3:=by omega
 obtain⟨a,b,d,rfl⟩:∃ a b d,xs = [a,b,d]:=by
  match xs,hlen with
  | [a,b,d],_=>exact⟨a,b,d,rfl⟩
 rw[if_neg (by decide)]
 have hch:∀ v∈[a,b,d],v.chk=0:=fun v hv=>by
  have:=List.all_eq_true.1 hok v hv;exact beq_iff_eq.1 this
 have hkk:KOk (fun i=>if i=0 then [3,4]else [2]) [a,b,d] 3↔SC.okK [24,4,4] [a,b,d]=true:=by
  rw[kok3]
  simp[SC.okK,SC.fitsK]
 refine(rC_kinds _ [a,b,d] 3 3 (fun i=>if i=0 then [3,4]else [2]) (doP fSubstr [a,b,d]).2 (doP fSubstr [a,b,d]).1 A c w hr hm ar_substr (by rw[Lib.toList_data];rfl) (by rw[Lib.toList_data];rfl) (fun i hi W=>by
  have:i=0∨i=1∨i=2:=by have:i < 3:=hi;omega
  rcases this with rfl | rfl | rfl
  ·exact(kn_substr0 W).mono fun q w' h=>⟨2,h.1,rfl,by omega,h.2.1,h.2.2⟩
  ·exact(kn_substr1 W).mono fun q w' h=>⟨1,h.1,rfl,by omega,h.2.1,h.2.2⟩
  ·exact(kn_substr2 W).mono fun q w' h=>⟨1,h.1,rfl,by omega,h.2.1,h.2.2⟩) hok (by simp) (by simp) (by omega) (fun hK hN W hW => ?_)).mono fun q w' h=>kt_vr h (ks:=[24,4,4]) hkk (fun h=>by rw[if_pos h]) (fun h h2=>by rw[if_neg (by rw[h];decide),if_pos h2]) (fun h h2=>by rw[if_neg (by rw[h];decide),if_neg (by rw[h2];decide)])
 have hK:=kok3.1 hK
 simp[SC.nulB]at hN
 have hrW:=hr.later hW
 by_cases hn:d.i < 0
 ·have hd:doP fSubstr [a,b,d]=(1,zW):=by show dSubstr a b d=_;unfold dSubstr;rw[if_pos hn]
  rw[hd];exact rc_substr0 a [a,b,d] A c W hrW (by simp) rfl b d (by simp) (by simp) rfl rfl hn
 ·have hd:doP fSubstr [a,b,d]=(0,⟨a.k,0,SC.pc a.s b.i d.i⟩):=by show dSubstr a b d=_;unfold dSubstr;rw[if_neg hn]
  rw[hd];exact rc_substr1 a [a,b,d] A c W hrW (by simp) rfl b d (by simp) (by simp) rfl rfl hn (hI a (by simp)).2 (hI b (by simp)).1 (hI d (by simp)).1.2
theorem rK_instr(xs:List BV.V)(A:Option Addr)(c:Nat)(w:World)(hr:BV.RowAt w w.heap.size A xs)(hm:xs.length≤1000)(hI:∀ v∈xs,I64 v∧v.s.size≤100000000) :
  Calls Tryz.prog 63 #[.string ⟨#[105,110,115,116,114]⟩,.slice A xs.length c] w (VR w (callP fInstr xs).2 (callP fInstr xs).1):=by
 obtain⟨x,hx,e1,e2,e3,e4,e5⟩:=lk_instr;have hcp:callP fInstr xs=callX fInstr x xs:=by unfold callP;rw[hx]
 rw[hcp];unfold callX;rw[e1,e2,e3,e4,e5]
 by_cases hb:SC.takesB 2 2 xs.length=false∨BV.allOk xs=false
 ·rw[if_pos hb]
  refine rC_bad _ xs 2 2 true A c w hr hm ar_instr ?_;rcases hb with hb | hb
  ·unfold SC.takesB at hb
   simp only[Bool.and_eq_false_iff,Bool.or_eq_false_iff,decide_eq_false_iff_not]at hb
   omega
  ·exact .inl hb
 rw[if_neg hb];have hok:BV.allOk xs=true:=by cases h:BV.allOk xs;exact absurd (.inr h) hb;rfl
 have htk:SC.takesB 2 2 xs.length=true:=by cases h:SC.takesB 2 2 xs.length;exact absurd (.inl h) hb;rfl
 unfold SC.takesB at htk;simp only[Bool.and_eq_true,Bool.or_eq_true,decide_eq_true_eq]at htk;have hlen:xs.length=2:=by omega
 obtain⟨a,b,rfl⟩:∃ a b,xs = [a,b]:=by
  match xs,hlen with
  | [a,b],_=>exact⟨a,b,rfl⟩
 rw[if_neg (by decide)]
 have hch:∀ v∈[a,b],v.chk=0:=fun v hv=>by
  have:=List.all_eq_true.1 hok v hv;exact beq_iff_eq.1 this
 have hkk:KOk (fun _=>[3]) [a,b] 2↔SC.okK [8,8,0] [a,b]=true:=by
  rw[kok2]
  simp[SC.okK,SC.fitsK]
 refine(rC_kinds _ [a,b] 2 2 (fun _=>[3]) (doP fInstr [a,b]).2 (doP fInstr [a,b]).1 A c w hr hm ar_instr (by rw[Lib.toList_data];rfl) (by rw[Lib.toList_data];rfl) (fun i _ W=>(kn_instr (i:Int) W).mono fun q w' h=>⟨1,h.1,rfl,by omega,h.2.1,h.2.2⟩) hok (by simp) (by simp) (by omega) (fun hK hN W hW => ?_)).mono fun q w' h=>kt_vr h (ks:=[8,8,0]) hkk (fun h=>by rw[if_pos h]) (fun h h2=>by rw[if_neg (by rw[h];decide),if_pos h2]) (fun h h2=>by rw[if_neg (by rw[h];decide),if_neg (by rw[h2];decide)])
 have hK:=kok2.1 hK
 simp[SC.nulB]at hN
 have hrW:=hr.later hW;exact rc_instr a [a,b] A c W hrW (by simp) rfl b (by simp) rfl (hI a (by simp)).2 (hI b (by simp)).2
theorem rK_replace(xs:List BV.V)(A:Option Addr)(c:Nat)(w:World)(hr:BV.RowAt w w.heap.size A xs)(hm:xs.length≤1000)(hI:∀ v∈xs,I64 v∧v.s.size≤100000000) :
  Calls Tryz.prog 63 #[.string ⟨#[114,101,112,108,97,99,101]⟩,.slice A xs.length c] w (VR w (callP fReplace xs).2 (callP fReplace xs).1):=by
 obtain⟨x,hx,e1,e2,e3,e4,e5⟩:=lk_replace;have hcp:callP fReplace xs=callX fReplace x xs:=by unfold callP;rw[hx]
 rw[hcp];unfold callX;rw[e1,e2,e3,e4,e5]
 by_cases hb:SC.takesB 3 3 xs.length=false∨BV.allOk xs=false
 ·rw[if_pos hb]
  refine rC_bad _ xs 3 3 true A c w hr hm ar_replace ?_;rcases hb with hb | hb
  ·unfold SC.takesB at hb
   simp only[Bool.and_eq_false_iff,Bool.or_eq_false_iff,decide_eq_false_iff_not]at hb
   omega
  ·exact .inl hb
 rw[if_neg hb];have hok:BV.allOk xs=true:=by cases h:BV.allOk xs;exact absurd (.inr h) hb;rfl
 have htk:SC.takesB 3 3 xs.length=true:=by cases h:SC.takesB 3 3 xs.length;exact absurd (.inl h) hb;rfl
 unfold SC.takesB at htk;simp only[Bool.and_eq_true,Bool.or_eq_true,decide_eq_true_eq]at htk;have hlen:xs.length=3:=by omega
 obtain⟨a,b,d,rfl⟩:∃ a b d,xs = [a,b,d]:=by
  match xs,hlen with
  | [a,b,d],_=>exact⟨a,b,d,rfl⟩
 rw[if_neg (by decide)]
 have hch:∀ v∈[a,b,d],v.chk=0:=fun v hv=>by
  have:=List.all_eq_true.1 hok v hv;exact beq_iff_eq.1 this
 have hkk:KOk (fun _=>[3]) [a,b,d] 3↔SC.okK [8,8,8] [a,b,d]=true:=by
  rw[kok3]
  simp[SC.okK,SC.fitsK]
 refine(rC_kinds _ [a,b,d] 3 3 (fun _=>[3]) (doP fReplace [a,b,d]).2 (doP fReplace [a,b,d]).1 A c w hr hm ar_replace (by rw[Lib.toList_data];rfl) (by rw[Lib.toList_data];rfl) (fun i _ W=>(kn_replace (i:Int) W).mono fun q w' h=>⟨1,h.1,rfl,by omega,h.2.1,h.2.2⟩) hok (by simp) (by simp) (by omega) (fun hK hN W hW => ?_)).mono fun q w' h=>kt_vr h (ks:=[8,8,8]) hkk (fun h=>by rw[if_pos h]) (fun h h2=>by rw[if_neg (by rw[h];decide),if_pos h2]) (fun h h2=>by rw[if_neg (by rw[h];decide),if_neg (by rw[h2];decide)])
 have hK:=kok3.1 hK
 simp[SC.nulB]at hN
 have hrW:=hr.later hW;have hk3:a.k=3:=by simpa [hN]using hK.1
 by_cases he:b.s=⟨#[]⟩
 ·have hd:doP fReplace [a,b,d]=(0,a):=by show dReplace a b d=_;unfold dReplace;rw[if_pos he]
  rw[hd]
  have ha:txtV a.s=a:=by
   have h0:=may_txt (hch a (by simp)) (.inl hk3)
   cases a
   simp_all [txtV]
  rw[←ha];exact rc_repl0 a [a,b,d] A c W hrW (by simp) rfl b d (by simp) (by simp) rfl rfl he
 ·have h0:0 < b.s.size:=by
   rcases Nat.eq_zero_or_pos b.s.size with h | h
   ·exact absurd (ba_ext (by have:=ba_len b.s;rw[h]at this;exact List.length_eq_zero_iff.1 this)) he
   ·exact h
  have hRT:=fun W=>repl_txt a.s b.s d.s (hI a (by simp)).2 (hI b (by simp)).2 (hI d (by simp)).2 h0 W
  have hlen:replN a b d=((Lib.replaceAll a.s.data.toList b.s.data.toList d.s.data.toList).length:Int):=by
   have h:=replaceAll_len a.s.data.toList b.s.data.toList d.s.data.toList (fun h=>by have:=ba_len b.s;rw[h]at this;simp at this;omega)
   rw[ba_len,ba_len,ba_len]at h;unfold replN;have h2:((Lib.count a.s.data.toList b.s.data.toList:Int)*((d.s.size:Int) - b.s.size))=(Lib.count a.s.data.toList b.s.data.toList:Int)*(d.s.size:Int) - (Lib.count a.s.data.toList b.s.data.toList:Int)*(b.s.size:Int):=Int.mul_sub ..;rw[h2];have h3:=congrArg (Nat.cast:Nat→Int) h;simp only[Int.natCast_add,Int.natCast_mul]at h3
   omega
  by_cases hN2:100000 < replN a b d
  ·have hd:doP fReplace [a,b,d]=(30,zW):=by show dReplace a b d=_;unfold dReplace;rw[if_neg he,if_pos hN2]
   rw[hd]
   exact rc_repl2 a [a,b,d] A c W hrW (by simp) rfl b d (by simp) (by simp) rfl rfl (fun W=>(hRT W).mono fun q w' h=>⟨by
    rcases h.1 with ⟨h1,-⟩ | ⟨-,h1⟩
    ·omega
    ·exact h1,h.2⟩)
  ·have hd:doP fReplace [a,b,d]=(0,txtV ⟨(Lib.replaceAll a.s.data.toList b.s.data.toList d.s.data.toList).toArray⟩):=by show dReplace a b d=_;unfold dReplace;rw[if_neg he,if_neg hN2]
   rw[hd]
   exact rc_repl1 a [a,b,d] A c W hrW (by simp) rfl b d (by simp) (by simp) rfl rfl _ (fun W=>(hRT W).mono fun q w' h=>⟨by
    rcases h.1 with ⟨-,bb,h1,h2⟩ | ⟨h1,-⟩
    ·rw[h2]
     have:bb=⟨(Lib.replaceAll a.s.data.toList b.s.data.toList d.s.data.toList).toArray⟩:=ba_ext h1;rw[this]
    ·omega,h.2⟩)
theorem str_listR(n:List UInt8):(str n).toList=n:=by rw[Lib.toList_data];rfl
theorem rCall_any(n:List UInt8)(xs:List BV.V)(A:Option Addr)(c:Nat)(w:World)(hr:BV.RowAt w w.heap.size A xs)(hm:xs.length≤1000)(hI:∀ v∈xs,I64 v∧v.s.size≤100000000) :
  Calls Tryz.prog 63 #[.string (str n),.slice A xs.length c] w (VR w (callP n xs).2 (callP n xs).1):=by
 by_cases h_coalesce:n=fCoalesce
 ·subst h_coalesce;exact rK_coalesce xs A c w hr hm hI
 by_cases h_nullif:n=fNullif
 ·subst h_nullif;exact rK_nullif xs A c w hr hm hI
 by_cases h_abs:n=fAbs
 ·subst h_abs;exact rK_abs xs A c w hr hm hI
 by_cases h_sign:n=fSign
 ·subst h_sign;exact rK_sign xs A c w hr hm hI
 by_cases h_length:n=fLength
 ·subst h_length;exact rK_length xs A c w hr hm hI
 by_cases h_lower:n=fLower
 ·subst h_lower;exact rK_lower xs A c w hr hm hI
 by_cases h_upper:n=fUpper
 ·subst h_upper;exact rK_upper xs A c w hr hm hI
 by_cases h_trim:n=fTrim
 ·subst h_trim;exact rK_trim xs A c w hr hm hI
 by_cases h_substr:n=fSubstr
 ·subst h_substr;exact rK_substr xs A c w hr hm hI
 by_cases h_instr:n=fInstr
 ·subst h_instr;exact rK_instr xs A c w hr hm hI
 by_cases h_replace:n=fReplace
 ·subst h_replace;exact rK_replace xs A c w hr hm hI
 have b_coalesce:((str n).toList == fCoalesce)=false:=by rw[str_listR];simpa using h_coalesce
 have b_nullif:((str n).toList == fNullif)=false:=by rw[str_listR];simpa using h_nullif
 have b_abs:((str n).toList == fAbs)=false:=by rw[str_listR];simpa using h_abs
 have b_sign:((str n).toList == fSign)=false:=by rw[str_listR];simpa using h_sign
 have b_length:((str n).toList == fLength)=false:=by rw[str_listR];simpa using h_length
 have b_lower:((str n).toList == fLower)=false:=by rw[str_listR];simpa using h_lower
 have b_upper:((str n).toList == fUpper)=false:=by rw[str_listR];simpa using h_upper
 have b_trim:((str n).toList == fTrim)=false:=by rw[str_listR];simpa using h_trim
 have b_substr:((str n).toList == fSubstr)=false:=by rw[str_listR];simpa using h_substr
 have b_instr:((str n).toList == fInstr)=false:=by rw[str_listR];simpa using h_instr
 have b_replace:((str n).toList == fReplace)=false:=by rw[str_listR];simpa using h_replace
 have hl:SC.look (str n)=none:=by
  unfold SC.look;rw[List.find?_eq_none];intro x hx hq;rw[beq_iff_eq]at hq;simp only[SC.fns,List.mem_cons,List.not_mem_nil,or_false]at hx;rcases hx with rfl | rfl | rfl | rfl | rfl | rfl | rfl | rfl | rfl | rfl | rfl
  ·exact h_coalesce (by rw[str_listR]at hq;rw[←hq,Lib.toList_data];rfl)
  ·exact h_nullif (by rw[str_listR]at hq;rw[←hq,Lib.toList_data];rfl)
  ·exact h_abs (by rw[str_listR]at hq;rw[←hq,Lib.toList_data];rfl)
  ·exact h_sign (by rw[str_listR]at hq;rw[←hq,Lib.toList_data];rfl)
  ·exact h_length (by rw[str_listR]at hq;rw[←hq,Lib.toList_data];rfl)
  ·exact h_lower (by rw[str_listR]at hq;rw[←hq,Lib.toList_data];rfl)
  ·exact h_upper (by rw[str_listR]at hq;rw[←hq,Lib.toList_data];rfl)
  ·exact h_trim (by rw[str_listR]at hq;rw[←hq,Lib.toList_data];rfl)
  ·exact h_substr (by rw[str_listR]at hq;rw[←hq,Lib.toList_data];rfl)
  ·exact h_instr (by rw[str_listR]at hq;rw[←hq,Lib.toList_data];rfl)
  ·exact h_replace (by rw[str_listR]at hq;rw[←hq,Lib.toList_data];rfl)
 have hcp:callP n xs=(1,zW):=by unfold callP;rw[hl]
 rw[hcp];exact rC_bad _ xs 0 0 false A c w hr hm (fun W=>ar_none _ b_coalesce b_abs b_sign b_length b_lower b_upper b_trim b_nullif b_instr b_substr b_replace W) (.inr (.inl rfl))
end Go.Proofs.YtcicpjgnpcnnmaaGreatDoor
