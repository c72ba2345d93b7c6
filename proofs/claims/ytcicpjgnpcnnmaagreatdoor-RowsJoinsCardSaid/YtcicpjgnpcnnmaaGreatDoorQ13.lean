import Derived.Test.YtcicpjgnpcnnmaaGreatDoorQ03
import Derived.Test.YtcicpjgnpcnnmaaGreatDoorQ12
import Derived.Deep.Cut
import Derived.Deep.Quiet
import Derived.Lib.ReplaceLaws
import Derived.Deep.RegionWith
set_option maxRecDepth 100000
set_option maxHeartbeats 8000000
namespace Go.Proofs.YtcicpjgnpcnnmaaGreatDoor.BV
end Go.Proofs.YtcicpjgnpcnnmaaGreatDoor.BV
namespace Go.Proofs.YtcicpjgnpcnnmaaGreatDoor.SC
open BV
open Go.RowKit
def joE(a b:V):Int:=if allOk [a,b]=false then 1 else if okK [24,24,0] [a,b]=false then 20 else if nulB [a,b]=true∨a.k=b.k then 0 else 20
def joV(a b:V):V:=if joE a b=0∧nulB [a,b]=false then ⟨a.k,0,a.s++b.s⟩else zV
theorem jo_bad{a b:V}(h:allOk [a,b]=false):joE a b=1∧joV a b=zV:=by
 have h1:joE a b=1:=by unfold joE;rw[if_pos h]
 exact⟨h1,by unfold joV;rw[h1];rfl⟩
theorem jo_kind{a b:V}(h:allOk [a,b]=true)(hs:okK [24,24,0] [a,b]=false):joE a b=20∧joV a b=zV:=by
 have h1:joE a b=20:=by unfold joE;rw[if_neg (by simp[h]),if_pos hs]
 exact⟨h1,by unfold joV;rw[h1];rfl⟩
theorem jo_null{a b:V}(h:allOk [a,b]=true)(hs:okK [24,24,0] [a,b]=true)(hn:nulB [a,b]=true):joE a b=0∧joV a b=zV:=by
 have h1:joE a b=0:=by unfold joE;rw[if_neg (by simp[h]),if_neg (by simp[hs]),if_pos (Or.inl hn)]
 exact⟨h1,by unfold joV;rw[hn];simp⟩
theorem jo_two{a b:V}(h:allOk [a,b]=true)(hs:okK [24,24,0] [a,b]=true)(hn:nulB [a,b]=false)(hk:¬a.k=b.k):joE a b=20∧joV a b=zV:=by
 have h1:joE a b=20:=by unfold joE;rw[if_neg (by simp[h]),if_neg (by simp[hs]),if_neg (by simp[hn,hk])]
 exact⟨h1,by unfold joV;rw[h1];rfl⟩
theorem jo_one{a b:V}(h:allOk [a,b]=true)(hs:okK [24,24,0] [a,b]=true)(hn:nulB [a,b]=false)(hk:a.k=b.k):joE a b=0∧joV a b=⟨a.k,0,a.s++b.s⟩:=by
 have h1:joE a b=0:=by unfold joE;rw[if_neg (by simp[h]),if_neg (by simp[hs]),if_pos (Or.inr hk)]
 exact⟨h1,by unfold joV;rw[h1,hn];simp⟩
theorem two_boxes(w:World)(a b:V):HV w [(w.heap.size+2,zV),(w.heap.size+1,b),(w.heap.size,a)] (((w.alloc (.cells #[.int .i64 a.k,.int .i64 a.i,.string a.s] 26)).alloc (.cells #[.int .i64 b.k,.int .i64 b.i,.string b.s] 26)).alloc (.cells #[.int .i64 0,.int .i64 0,.string ⟨#[]⟩] 26)) :=
 (((HV.nil w).push a).pushAt (by simp) b).pushAt (by simp) zV
theorem join_any(a b:V)(w:World)(ha:a.s.size≤140737488355328)(hb:b.s.size≤140737488355328) :
  Calls Tryz.prog 92 #[.agg #[.int .i64 a.k,.int .i64 a.i,.string a.s],.agg #[.int .i64 b.k,.int .i64 b.i,.string b.s]] w fun e w'=>e = .returned (.tuple #[.agg #[.int .i64 (joV a b).k,.int .i64 (joV a b).i,.string (joV a b).s],.int .i64 (joE a b)])∧Below w.heap.size w w':=by
 have HB:=Hi (two_boxes w a b);have HW:=Hi (fun W H hH=>wrong2_any a b W H hH)
 cases hok:allOk [a,b]
 ·rw[(jo_bad hok).1,(jo_bad hok).2]
  rw[hok]at HW;clear hok ha hb;go_enter Tryz.func92,Tryz.ntmps92;go_wp2_with fail;refine(HW.out _ _ (by simp)).mono ?_
  rintro e w1 ⟨rfl,hb1,hs1⟩;have H1:=Hi (HB.out.call (bele hb1 (by simp)))
  obtain⟨g0,g1,g2⟩:=H1.out.box.cells;obtain⟨f0,f1,f2⟩:=H1.out.box.free;simp only[zV]at g0 g1 g2;go_wp2_with fail;exact bodyPost_ret (v:= .tuple #[.agg #[.int .i64 0,.int .i64 0,.string ⟨#[]⟩],.int .i64 1]) (by simp[results,Tryz.results92,go_sem,g0,g1,g2]) rfl ⟨rfl,Below.set3 H1.out.below (by omega) _ _ _⟩
 ·rw[hok]at HW
  have HS:=Hi (fun W H hH=>strict2_any 24 24 0 a b W H hH (Or.inr (Or.inr rfl)) (Or.inr (Or.inr rfl)) hok)
  cases hk:okK [24,24,0] [a,b]
  ·rw[(jo_kind hok hk).1,(jo_kind hok hk).2]
   unfold stN stE at HS;rw[hk]at HS;clear hok hk ha hb;go_enter Tryz.func92,Tryz.ntmps92;go_wp2_with fail;refine(HW.out _ _ (by simp)).mono ?_
   rintro e w1 ⟨rfl,hb1,hs1⟩;have H1:=Hi (HB.out.call (bele hb1 (by simp)))
   obtain⟨c0,c1,c2⟩:=H1.out.tail.box.cells;obtain⟨d0,d1,d2⟩:=H1.out.tail.tail.box.cells;go_wp2_with fail;refine(HS.out _ _ rfl).mono ?_;rintro e w2 ⟨rfl,hb2,hs2⟩;have H2:=Hi (H1.out.call hb2);obtain⟨g0,g1,g2⟩:=H2.out.box.cells;obtain⟨f0,f1,f2⟩:=H2.out.box.free;simp only[zV]at g0 g1 g2;go_wp2_with fail;exact bodyPost_ret (v:= .tuple #[.agg #[.int .i64 0,.int .i64 0,.string ⟨#[]⟩],.int .i64 20]) (by simp[results,Tryz.results92,go_sem,g0,g1,g2]) rfl ⟨rfl,Below.set3 H2.out.below (by omega) _ _ _⟩
  ·unfold stN stE at HS
   rw[hk]at HS;cases hn:nulB [a,b]
   ·rw[hn]at HS
    by_cases hkk:a.k=b.k
    ·rw[(jo_one hok hk hn hkk).1,(jo_one hok hk hn hkk).2]
     have hkk':(b.k != b.k)=false:=by simp
     obtain⟨ak,ai,sa⟩:=a;simp only at *;subst hkk;clear hok hk hn;go_enter Tryz.func92,Tryz.ntmps92;go_wp2_with fail;refine(HW.out _ _ (by simp)).mono ?_
     rintro e w1 ⟨rfl,hb1,hs1⟩;have H1:=Hi (HB.out.call (bele hb1 (by simp)))
     obtain⟨c0,c1,c2⟩:=H1.out.tail.box.cells;obtain⟨d0,d1,d2⟩:=H1.out.tail.tail.box.cells;go_wp2_with fail;refine(HS.out _ _ rfl).mono ?_;rintro e w2 ⟨rfl,hb2,hs2⟩;have H2:=Hi (H1.out.call hb2);clear c0 c1 c2 d0 d1 d2;obtain⟨c0,c1,c2⟩:=H2.out.tail.box.cells;obtain⟨d0,d1,d2⟩:=H2.out.tail.tail.box.cells;obtain⟨g0,g1,g2⟩:=H2.out.box.cells;obtain⟨f0,f1,f2⟩:=H2.out.box.free;simp only[zV]at g0 g1 g2;go_wp2_with fail;exact bodyPost_ret (v:= .tuple #[.agg #[.int .i64 b.k,.int .i64 0,.string (sa++b.s)],.int .i64 0]) (by simp[results,Tryz.results92,go_sem,g0,g1,g2]) rfl ⟨rfl,Below.set3 H2.out.below (by omega) _ _ _⟩
    ·rw[(jo_two hok hk hn hkk).1,(jo_two hok hk hn hkk).2]
     have hkk':(a.k != b.k)=true:=by simpa using hkk
     clear hok hk hn hkk ha hb;go_enter Tryz.func92,Tryz.ntmps92;go_wp2_with fail;refine(HW.out _ _ (by simp)).mono ?_
     rintro e w1 ⟨rfl,hb1,hs1⟩;have H1:=Hi (HB.out.call (bele hb1 (by simp)))
     obtain⟨c0,c1,c2⟩:=H1.out.tail.box.cells;obtain⟨d0,d1,d2⟩:=H1.out.tail.tail.box.cells;go_wp2_with fail;refine(HS.out _ _ rfl).mono ?_;rintro e w2 ⟨rfl,hb2,hs2⟩;have H2:=Hi (H1.out.call hb2);clear c0 c1 c2 d0 d1 d2;obtain⟨c0,c1,c2⟩:=H2.out.tail.box.cells;obtain⟨d0,d1,d2⟩:=H2.out.tail.tail.box.cells;obtain⟨g0,g1,g2⟩:=H2.out.box.cells;obtain⟨f0,f1,f2⟩:=H2.out.box.free;simp only[zV]at g0 g1 g2;go_wp2_with fail;exact bodyPost_ret (v:= .tuple #[.agg #[.int .i64 0,.int .i64 0,.string ⟨#[]⟩],.int .i64 20]) (by simp[results,Tryz.results92,go_sem,g0,g1,g2]) rfl ⟨rfl,Below.set3 H2.out.below (by omega) _ _ _⟩
   ·rw[(jo_null hok hk hn).1,(jo_null hok hk hn).2]
    rw[hn]at HS;clear hok hk hn ha hb;go_enter Tryz.func92,Tryz.ntmps92;go_wp2_with fail;refine(HW.out _ _ (by simp)).mono ?_
    rintro e w1 ⟨rfl,hb1,hs1⟩;have H1:=Hi (HB.out.call (bele hb1 (by simp)))
    obtain⟨c0,c1,c2⟩:=H1.out.tail.box.cells;obtain⟨d0,d1,d2⟩:=H1.out.tail.tail.box.cells;go_wp2_with fail;refine(HS.out _ _ rfl).mono ?_;rintro e w2 ⟨rfl,hb2,hs2⟩;have H2:=Hi (H1.out.call hb2);obtain⟨g0,g1,g2⟩:=H2.out.box.cells;obtain⟨f0,f1,f2⟩:=H2.out.box.free;simp only[zV]at g0 g1 g2;clear c0 c1 c2 d0 d1 d2;go_wp2_with fail;exact bodyPost_ret (v:= .tuple #[.agg #[.int .i64 0,.int .i64 0,.string ⟨#[]⟩],.int .i64 0]) (by simp[results,Tryz.results92,go_sem,g0,g1,g2]) rfl ⟨rfl,Below.set3 H2.out.below (by omega) _ _ _⟩
end Go.Proofs.YtcicpjgnpcnnmaaGreatDoor.SC
namespace Go.Proofs.YtcicpjgnpcnnmaaGreatDoor.BV
end Go.Proofs.YtcicpjgnpcnnmaaGreatDoor.BV
namespace Go.Proofs.YtcicpjgnpcnnmaaGreatDoor.SC
open BV
open Go.RowKit
def sV(s:ByteArray):V:=⟨3,0,s⟩
end Go.Proofs.YtcicpjgnpcnnmaaGreatDoor.SC
namespace Go.Proofs.YtcicpjgnpcnnmaaGreatDoor.BV
end Go.Proofs.YtcicpjgnpcnnmaaGreatDoor.BV
namespace Go.Proofs.YtcicpjgnpcnnmaaGreatDoor.SC
open BV
open Go.RowKit
def trimS(s:ByteArray):ByteArray:=⟨(Lib.trimB s.data.toList 32).toArray⟩
theorem trim_lib(s:ByteArray)(w:World)(hs:s.size≤100000000):Calls Tryz.prog 211 #[.string s,.string ⟨#[32]⟩] w fun e w'=>e = .returned (.string (trimS s))∧Below w.heap.size w w':=by
 refine(Tryz.strings_Trim_one s 32 (by decide) w (by omega)).mono ?_
 rintro e w' ⟨he,hw⟩;refine⟨he,?_⟩;rcases hw with rfl | rfl
 ·exact Below.refl _ _
 ·exact(Below.refl _ _).drew
theorem lower_do(s:ByteArray)(H:Nat)(w:World)(h:Args w H [sV s])(hs:s.size≤100000000):Calls Tryz.prog 195 #[.slice (some ⟨H,0,none⟩) 1 1] w fun e w'=>e = .returned (.tuple #[.agg #[.int .i64 3,.int .i64 0,.string (turnedB 65 s)],.int .i64 0])∧Below w.heap.size w w':=by
 have hl:=h.lt;have HZ:=Hi (zero_box w);have c2:w.cell? ⟨H,2,none⟩=some (.string s):=h.cell 2;have HT:=Hi (fun w=>turned65 s w hs)
 clear h hs;generalize (turnedB 65 s)=r at *;go_enter Tryz.func195,Tryz.ntmps195;go_wp2_with fail;refine(HT.out _).mono ?_;rintro e w1 ⟨rfl,b1⟩;have P1:=Hi (HZ.out.call b1);clear c2;go_wp2_with fail;refine(text_any _ _).mono ?_;rintro e w2 ⟨rfl,b2⟩;have P2:=Hi (P1.out.call b2);obtain⟨g0,g1,g2⟩:=P2.out.box.cells;obtain⟨f0,f1,f2⟩:=P2.out.box.free;simp only[zV]at g0 g1 g2;go_wp2_with fail;exact bodyPost_ret (v:= .tuple #[.agg #[.int .i64 3,.int .i64 0,.string r],.int .i64 0]) (by simp[results,Tryz.results195,go_sem,g0,g1,g2]) rfl ⟨rfl,Below.set3 P2.out.below (Nat.le_refl _) _ _ _⟩
theorem upper_do(s:ByteArray)(H:Nat)(w:World)(h:Args w H [sV s])(hs:s.size≤100000000):Calls Tryz.prog 196 #[.slice (some ⟨H,0,none⟩) 1 1] w fun e w'=>e = .returned (.tuple #[.agg #[.int .i64 3,.int .i64 0,.string (turnedB 97 s)],.int .i64 0])∧Below w.heap.size w w':=by
 have hl:=h.lt;have HZ:=Hi (zero_box w);have c2:w.cell? ⟨H,2,none⟩=some (.string s):=h.cell 2;have HT:=Hi (fun w=>turned97 s w hs)
 clear h hs;generalize (turnedB 97 s)=r at *;go_enter Tryz.func196,Tryz.ntmps196;go_wp2_with fail;refine(HT.out _).mono ?_;rintro e w1 ⟨rfl,b1⟩;have P1:=Hi (HZ.out.call b1);clear c2;go_wp2_with fail;refine(text_any _ _).mono ?_;rintro e w2 ⟨rfl,b2⟩;have P2:=Hi (P1.out.call b2);obtain⟨g0,g1,g2⟩:=P2.out.box.cells;obtain⟨f0,f1,f2⟩:=P2.out.box.free;simp only[zV]at g0 g1 g2;go_wp2_with fail;exact bodyPost_ret (v:= .tuple #[.agg #[.int .i64 3,.int .i64 0,.string r],.int .i64 0]) (by simp[results,Tryz.results196,go_sem,g0,g1,g2]) rfl ⟨rfl,Below.set3 P2.out.below (Nat.le_refl _) _ _ _⟩
theorem trim_do(s:ByteArray)(H:Nat)(w:World)(h:Args w H [sV s])(hs:s.size≤100000000):Calls Tryz.prog 197 #[.slice (some ⟨H,0,none⟩) 1 1] w fun e w'=>e = .returned (.tuple #[.agg #[.int .i64 3,.int .i64 0,.string (trimS s)],.int .i64 0])∧Below w.heap.size w w':=by
 have hl:=h.lt;have HZ:=Hi (zero_box w);have c2:w.cell? ⟨H,2,none⟩=some (.string s):=h.cell 2;have HT:=Hi (fun w=>trim_lib s w hs)
 clear h hs;generalize (trimS s)=r at *;go_enter Tryz.func197,Tryz.ntmps197;go_wp2_with fail;refine(HT.out _).mono ?_;rintro e w1 ⟨rfl,b1⟩;have P1:=Hi (HZ.out.call b1);clear c2;go_wp2_with fail;refine(text_any _ _).mono ?_;rintro e w2 ⟨rfl,b2⟩;have P2:=Hi (P1.out.call b2);obtain⟨g0,g1,g2⟩:=P2.out.box.cells;obtain⟨f0,f1,f2⟩:=P2.out.box.free;simp only[zV]at g0 g1 g2;go_wp2_with fail;exact bodyPost_ret (v:= .tuple #[.agg #[.int .i64 3,.int .i64 0,.string r],.int .i64 0]) (by simp[results,Tryz.results197,go_sem,g0,g1,g2]) rfl ⟨rfl,Below.set3 P2.out.below (Nat.le_refl _) _ _ _⟩
theorem empty_of{t:ByteArray}(h:t.size=0):t=⟨#[]⟩:=by
 cases t;simp only[ByteArray.mk.injEq];exact Array.eq_empty_of_size_eq_zero h
end Go.Proofs.YtcicpjgnpcnnmaaGreatDoor.SC
namespace Go.Proofs.YtcicpjgnpcnnmaaGreatDoor.BV
end Go.Proofs.YtcicpjgnpcnnmaaGreatDoor.BV
namespace Go.Proofs.YtcicpjgnpcnnmaaGreatDoor.SC
open BV
open Go.RowKit
theorem rar1(a b:Int)(w:World)(ha:In64 a)(hb:In64 b):Calls Tryz.prog 157 #[.string ⟨#[43]⟩,.int .i64 a,.int .i64 b] w fun e w'=>e = .returned (.tuple #[.int .i64 (numR 1 a b),.int .i64 (numE 1 a b)])∧Drawn w w':=by
 obtain⟨e1,e2⟩:=num_lo (p:=1) (a:=a) (b:=b) (n:=wrap64 (a+b)) (by omega) (fun h=>wrap_id h)
 have e3:=(add_tell ha hb).2;rw[e1,e2,show numX 1 a b=a+b from rfl]
 clear e1 e2 ha hb;cases hk:okN (a+b)
 all_goals
  rw[hk]at e3;clear hk;go_enter Tryz.func157,Tryz.ntmps157;go_wp2_with fail
  go_ret2
  exact⟨rfl,0,rfl⟩
theorem rar2(a b:Int)(w:World)(ha:In64 a)(hb:In64 b):Calls Tryz.prog 157 #[.string ⟨#[45]⟩,.int .i64 a,.int .i64 b] w fun e w'=>e = .returned (.tuple #[.int .i64 (numR 2 a b),.int .i64 (numE 2 a b)])∧Drawn w w':=by
 obtain⟨e1,e2⟩:=num_lo (p:=2) (a:=a) (b:=b) (n:=wrap64 (a - b)) (by omega) (fun h=>wrap_id h)
 have e3:=(sub_tell ha hb).2;rw[e1,e2,show numX 2 a b=a - b from rfl]
 clear e1 e2 ha hb;cases hk:okN (a - b)
 all_goals
  rw[hk]at e3;clear hk;go_enter Tryz.func157,Tryz.ntmps157;go_wp2_with fail
  go_ret2
  exact⟨rfl,0,rfl⟩
theorem rar3(a b:Int)(w:World)(ha:In64 a)(hb:In64 b):Calls Tryz.prog 157 #[.string ⟨#[42]⟩,.int .i64 a,.int .i64 b] w fun e w'=>e = .returned (.tuple #[.int .i64 (numR 3 a b),.int .i64 (numE 3 a b)])∧Drawn w w':=by
 obtain⟨e1,e2⟩:=num_lo (p:=3) (a:=a) (b:=b) (n:=wrap64 (a*b)) (by omega) (fun h=>wrap_id h)
 have ht:=times_any a b w ha hb;rw[e1,e2,show numX 3 a b=a*b from rfl]
 clear e1 e2 ha hb;generalize wrap64 (a*b)=n at *;cases hk:okN (a*b)
 all_goals
  rw[hk]at ht;clear hk;go_enter Tryz.func157,Tryz.ntmps157
  go_wp2_with (go_at_call 181;refine ht.mono ?_;rintro e w' ⟨rfl,hd⟩)
  go_ret2
  exact⟨rfl,hd⟩
theorem rar5(a b:Int)(w:World)(_ha:In64 a)(hb:In64 b):Calls Tryz.prog 157 #[.string ⟨#[37]⟩,.int .i64 a,.int .i64 b] w fun e w'=>e = .returned (.tuple #[.int .i64 (numR 5 a b),.int .i64 (numE 5 a b)])∧Drawn w w':=by
 by_cases h0:b=0
 ·subst h0
  obtain⟨e1,e2⟩:=num_zero (p:=5) (a:=a) (by omega)
  rw[e1,e2];clear e1 e2 hb;go_enter Tryz.func157,Tryz.ntmps157;go_wp2_with fail
  go_ret2
  exact⟨rfl,0,rfl⟩
 ·obtain⟨e1,e2⟩:=num_hi (p:=5) (a:=a) (b:=b) (n:=a.tmod b) h0 (fun h=>rfl)
  rw[e1,e2,show numX 5 a b=a.tmod b from rfl,tmod_ok hb h0]
  clear e1 e2;have hz:(b == 0)=false:=by simpa using h0
  by_cases h1:b = -1
  ·subst h1
   rw[show a.tmod (-1)=0 by rw[Int.tmod_neg,Int.tmod_one]]
   clear hz h0 hb;go_enter Tryz.func157,Tryz.ntmps157;go_wp2_with fail
   go_ret2
   exact⟨rfl,0,rfl⟩
  ·have hz1:(b == -1)=false:=by simpa using h1
   go_enter Tryz.func157,Tryz.ntmps157;go_wp2_with fail
   go_ret2
   exact⟨rfl,0,rfl⟩
theorem rar4(a b:Int)(w:World)(ha:In64 a)(hb:In64 b):Calls Tryz.prog 157 #[.string ⟨#[47]⟩,.int .i64 a,.int .i64 b] w fun e w'=>e = .returned (.tuple #[.int .i64 (numR 4 a b),.int .i64 (numE 4 a b)])∧Drawn w w':=by
 by_cases h0:b=0
 ·subst h0
  obtain⟨e1,e2⟩:=num_zero (p:=4) (a:=a) (by omega)
  rw[e1,e2];clear e1 e2 hb;go_enter Tryz.func157,Tryz.ntmps157;go_wp2_with fail
  go_ret2
  exact⟨rfl,0,rfl⟩
 ·have hz:(b == 0)=false:=by simpa using h0
  by_cases h1:b = -1
  ·subst h1
   have hn:=rar2 0 a w (by unfold In64;omega) ha
   have ex:numX 4 a (-1)=numX 2 0 a:=by
    show a.tdiv (-1)=0 - a
    rw[Int.tdiv_neg,Int.tdiv_one];omega
   have e2:numE 4 a (-1)=numE 2 0 a:=by rw[numE_at (by omega),numE_at (by omega),ex]
   have e1:numR 4 a (-1)=numR 2 0 a:=by unfold numR;rw[e2,ex]
   rw[e1,e2];generalize numR 2 0 a=x at *;generalize numE 2 0 a=y at *;clear hz h0 hb e1 e2 ex ha;go_enter Tryz.func157,Tryz.ntmps157
   go_wp2_with (go_at_call 157;refine hn.mono ?_;rintro e w' ⟨rfl,hd⟩)
   go_ret2
   exact⟨rfl,hd⟩
  ·obtain⟨e1,e2⟩:=num_hi (p:=4) (a:=a) (b:=b) (n:=wrap64 (a.tdiv b)) h0 (fun h=>wrap_id h)
   have hz1:(b == -1)=false:=by simpa using h1
   have hok:okN (a.tdiv b)=true:=by rw[tdiv_tell ha h0];unfold atEnd;rw[hz1,Bool.and_false];rfl
   rw[e1,e2,show numX 4 a b=a.tdiv b from rfl,hok]
   clear e1 e2 ha hok h1;go_enter Tryz.func157,Tryz.ntmps157;go_wp2_with fail
   go_ret2
   exact⟨rfl,0,rfl⟩
end Go.Proofs.YtcicpjgnpcnnmaaGreatDoor.SC
namespace Go.Proofs.YtcicpjgnpcnnmaaGreatDoor.BV
end Go.Proofs.YtcicpjgnpcnnmaaGreatDoor.BV
namespace Go.Proofs.YtcicpjgnpcnnmaaGreatDoor.SC
open BV
open Go.RowKit
theorem rmay2_any(a b:V)(w:World)(H:Nat)(hH:w.heap.size=H):Calls Tryz.prog 110 #[.slice (some ⟨H,0,none⟩) 2 2] (w.alloc (.cells #[.int .i64 a.k,.int .i64 a.i,.string a.s,.int .i64 b.k,.int .i64 b.i,.string b.s] 26)) fun e w'=>e = .returned (.bool (allOk [a,b]))∧Below H w w'∧H+1≤w'.heap.size:=by
 subst hH;refine(rmay_any [a,b] _ 2 _ (by simpa using row2_made w a b) (by simp)).mono ?_
 rintro e w' ⟨rfl,hb⟩;exact⟨rfl,((Below.refl _ w).alloc (Nat.le_refl _) _).trans (hb.mono (by simp)),by have:=hb.size;simpa using this⟩
theorem rint1_any(n:Int)(w:World):Calls Tryz.prog 27 #[.int .i64 n] w fun e w'=>e = .returned (.agg #[.int .i64 2,.int .i64 n,.string ⟨#[]⟩])∧Below w.heap.size w w':=by
 go_enter Tryz.func27,Tryz.ntmps27
 go_wp2
 exact bodyPost_ret (v:= .agg #[.int .i64 2,.int .i64 n,.string ⟨#[]⟩]) (by simp[results,Tryz.results27,go_sem]) rfl ⟨rfl,(Below.refl _ w).alloc (Nat.le_refl _) _⟩
def fitI(v:V):Prop:=v.k=0∨v.k=2
theorem okI{a b:V}:okK [4,4,0] [a,b]=true↔fitI a∧fitI b:=by
 unfold okK fitI fitsK
 simp
theorem args_row2{w:World}{H:Nat}(hH:w.heap.size=H)(a b:V):Args (w.alloc (.cells #[.int .i64 a.k,.int .i64 a.i,.string a.s,.int .i64 b.k,.int .i64 b.i,.string b.s] 26)) H [a,b]:=args2 hH
theorem Drawn.below{w w':World}(h:Drawn w w'):Below w.heap.size w w':=by obtain⟨n,rfl⟩:=h;exact below_drewN (Below.refl _ _) n
theorem rarith_bad(op:ByteArray)(a b:V)(w:World)(hok:allOk [a,b]=false) :
  Calls Tryz.prog 120 #[.string op,.agg #[.int .i64 a.k,.int .i64 a.i,.string a.s],.agg #[.int .i64 b.k,.int .i64 b.i,.string b.s]] w fun e w'=>e = .returned (.tuple #[.agg #[.int .i64 (arV op a b).k,.int .i64 (arV op a b).i,.string (arV op a b).s],.int .i64 (arE op a b)])∧Below w.heap.size w w':=by
 rw[(ar_bad hok).1,(ar_bad hok).2];have HB:=Hi (three_boxes w a b);have HM:=Hi (fun W H hH=>rmay2_any a b W H hH)
 rw[hok]at HM;clear hok;go_enter Tryz.func120,Tryz.ntmps120;go_wp2_with fail;refine(HM.out _ _ (by simp)).mono ?_
 rintro e w1 ⟨rfl,b1,s1⟩;have P1:=Hi (HB.out.call (bele b1 (by simp)))
 clear b1;obtain⟨g0,g1,g2⟩:=P1.out.box.cells;obtain⟨f0,f1,f2⟩:=P1.out.box.free;simp only[zV]at g0 g1 g2;go_wp2_with fail;exact bodyPost_ret (v:= .tuple #[.agg #[.int .i64 0,.int .i64 0,.string ⟨#[]⟩],.int .i64 1]) (by simp[results,Tryz.results120,go_sem,g0,g1,g2]) rfl ⟨rfl,Below.set3 P1.out.below (by omega) _ _ _⟩
theorem rarith0(op:ByteArray)(a b:V)(w:World)(hok:allOk [a,b]=true)(h1:(op.toList == [43])=false)(h2:(op.toList == [45])=false)(h3:(op.toList == [42])=false)(h4:(op.toList == [47])=false)(h5:(op.toList == [37])=false)(h0:opk op=0) :
  Calls Tryz.prog 120 #[.string op,.agg #[.int .i64 a.k,.int .i64 a.i,.string a.s],.agg #[.int .i64 b.k,.int .i64 b.i,.string b.s]] w fun e w'=>e = .returned (.tuple #[.agg #[.int .i64 (arV op a b).k,.int .i64 (arV op a b).i,.string (arV op a b).s],.int .i64 (arE op a b)])∧Below w.heap.size w w':=by
 rw[(ar_none h0).1,(ar_none h0).2];have HB:=Hi (three_boxes w a b);have HM:=Hi (fun W H hH=>rmay2_any a b W H hH)
 rw[hok]at HM;clear hok h0;have m1:(op.toList != [43])=true:=by simp only[bne,h1,Bool.not_false]
 have m2:(op.toList != [45])=true:=by simp only[bne,h2,Bool.not_false]
 have m3:(op.toList != [42])=true:=by simp only[bne,h3,Bool.not_false]
 have m4:(op.toList != [47])=true:=by simp only[bne,h4,Bool.not_false]
 have m5:(op.toList != [37])=true:=by simp only[bne,h5,Bool.not_false]
 go_enter Tryz.func120,Tryz.ntmps120;go_wp2_with fail;refine(HM.out _ _ (by simp)).mono ?_
 rintro e w1 ⟨rfl,b1,s1⟩;have P1:=Hi (HB.out.call (bele b1 (by simp)))
 clear b1;obtain⟨g0,g1,g2⟩:=P1.out.box.cells;obtain⟨f0,f1,f2⟩:=P1.out.box.free;simp only[zV]at g0 g1 g2;go_wp2_with fail;exact bodyPost_ret (v:= .tuple #[.agg #[.int .i64 0,.int .i64 0,.string ⟨#[]⟩],.int .i64 1]) (by simp[results,Tryz.results120,go_sem,g0,g1,g2]) rfl ⟨rfl,Below.set3 P1.out.below (by omega) _ _ _⟩
theorem rarith1(o:ByteArray)(m:Nat)(hm:(o=⟨#[43]⟩∧m=1)∨(o=⟨#[45]⟩∧m=2)∨(o=⟨#[42]⟩∧m=3)∨(o=⟨#[47]⟩∧m=4))(a b:V)(w:World)(ha:In64 a.i)(hb:In64 b.i)(hok:allOk [a,b]=true) :
  Calls Tryz.prog 120 #[.string o,.agg #[.int .i64 a.k,.int .i64 a.i,.string a.s],.agg #[.int .i64 b.k,.int .i64 b.i,.string b.s]] w fun e w'=>e = .returned (.tuple #[.agg #[.int .i64 (arV o a b).k,.int .i64 (arV o a b).i,.string (arV o a b).s],.int .i64 (arE o a b)])∧Below w.heap.size w w':=by
 have hp:opk o=m:=by
  rcases hm with ⟨rfl,rfl⟩ | ⟨rfl,rfl⟩ | ⟨rfl,rfl⟩ | ⟨rfl,rfl⟩
  all_goals (unfold opk;simp only[Lib.toList_data];rfl)
 have h0:¬opk o=0:=by
  rw[hp];rcases hm with ⟨-,h⟩ | ⟨-,h⟩ | ⟨-,h⟩ | ⟨-,h⟩
  all_goals omega
 have HB:=Hi (three_boxes w a b);have HM:=Hi (fun W H hH=>rmay2_any a b W H hH)
 rw[hok]at HM
 have HBAD:Hid (¬(fitI a∧fitI b)→20=arE o a b∧zV=arV o a b):=fun h=>by
  have h':okK [4,4,0] [a,b]=false:=by
   cases hq:okK [4,4,0] [a,b]
   ·rfl
   ·exact absurd (okI.1 hq) h
  exact⟨(ar_kind h0 hok h').1.symm,(ar_kind h0 hok h').2.symm⟩
 have HNUL:Hid (fitI a∧fitI b→nulB [a,b]=true→0=arE o a b∧zV=arV o a b):=fun h hn=>⟨(ar_null h0 hok (okI.2 h) hn).1.symm,(ar_null h0 hok (okI.2 h) hn).2.symm⟩
 have HNUM:Hid (fitI a∧fitI b→nulB [a,b]=false→numE m a.i b.i=arE o a b∧(if numE m a.i b.i=0 then nV (numR m a.i b.i)else zV)=arV o a b):=fun h hn=>by
  obtain⟨q1,q2⟩:=ar_num h0 hok (okI.2 h) hn;rw[hp]at q1 q2;exact⟨q1.symm,q2.symm⟩
 have HG:Hid (∀ w,Calls Tryz.prog 157 #[.string o,.int .i64 a.i,.int .i64 b.i] w fun e w'=>e = .returned (.tuple #[.int .i64 (numR m a.i b.i),.int .i64 (numE m a.i b.i)])∧Drawn w w'):=by
  rcases hm with ⟨rfl,rfl⟩ | ⟨rfl,rfl⟩ | ⟨rfl,rfl⟩ | ⟨rfl,rfl⟩
  ·exact fun w=>rar1 a.i b.i w ha hb
  ·exact fun w=>rar2 a.i b.i w ha hb
  ·exact fun w=>rar3 a.i b.i w ha hb
  ·exact fun w=>rar4 a.i b.i w ha hb
 generalize arE o a b=E at *;generalize arV o a b=R at *;generalize numR m a.i b.i=x at *;generalize numE m a.i b.i=y at *;clear ha hb hok hp h0;rcases hm with ⟨rfl,-⟩ | ⟨rfl,-⟩ | ⟨rfl,-⟩ | ⟨rfl,-⟩
 all_goals
  have HL:=Hi (fun(W:World) (H:Nat) (hH:W.heap.size=H)=>args_row2 hH a b)
  go_enter Tryz.func120,Tryz.ntmps120;go_wp2_with fail;refine(HM.out _ _ (by simp)).mono ?_
  rintro e w1 ⟨rfl,b1,s1⟩;have P1:=Hi (HB.out.call (bele b1 (by simp)))
  clear b1;obtain⟨c0,c1,c2⟩:=P1.out.tail.box.cells;obtain⟨d0,d1,d2⟩:=P1.out.tail.tail.box.cells;go_wp2_with fail;clear c0 c1 c2 d0 d1 d2
  go_loopw [42] (fun i wr=>(i = .int .i64 0∨(i = .int .i64 1∧fitI a)∨(i = .int .i64 2∧fitI a∧fitI b))∧Hid (HV w [(w.heap.size+2,zV),(w.heap.size+1,b),(w.heap.size,a)] wr)∧Hid (Args wr w1.heap.size [a,b])) (fun i _=>(2 - intOf i).toNat)
  case atStart=>exact⟨Or.inl rfl,P1.out.alloc _,HL.out w1 _ rfl⟩
  case round =>
   obtain⟨hi,HR,HA⟩:=hrel;have k0:wr.cell? ⟨w1.heap.size,0,none⟩=some (.int .i64 a.k):=HA.out.cell 0;have k1:wr.cell? ⟨w1.heap.size,1,none⟩=some (.int .i64 a.i):=HA.out.cell 1;have k2:wr.cell? ⟨w1.heap.size,2,none⟩=some (.string a.s):=HA.out.cell 2;have k3:wr.cell? ⟨w1.heap.size,3,none⟩=some (.int .i64 b.k):=HA.out.cell 3;have k4:wr.cell? ⟨w1.heap.size,4,none⟩=some (.int .i64 b.i):=HA.out.cell 4;have k5:wr.cell? ⟨w1.heap.size,5,none⟩=some (.string b.s):=HA.out.cell 5;rcases hi with rfl | ⟨rfl,hfa⟩ | ⟨rfl,hfa,hfb⟩
   ·skip
    skip
    by_cases hz:a.k=0
    ·have hz':(a.k != 0)=false:=by simpa using hz
     have HF:=Hi (show fitI a from Or.inl hz)
     clear hz;go_wp2_with fail
     go_roundw
     case rel=>exact⟨Or.inr (Or.inl ⟨rfl,HF.out⟩),HR.out.alloc _,HA.out.later ((Below.refl _ wr).alloc (Nat.le_refl _) _)⟩
     case measure=>simp[intOf]
    ·have hz':(a.k != 0)=true:=by simpa using hz
     by_cases ht:a.k=2
     ·have ht':(a.k != 2)=false:=by simpa using ht
      have HF:=Hi (show fitI a from Or.inr ht)
      clear hz ht;go_wp2_with fail
      go_roundw
      case rel=>exact⟨Or.inr (Or.inl ⟨rfl,HF.out⟩),HR.out.alloc _,HA.out.later ((Below.refl _ wr).alloc (Nat.le_refl _) _)⟩
      case measure=>simp[intOf]
     ·have ht':(a.k != 2)=true:=by simpa using ht
      have HF:=Hi (show ¬fitI a from fun h=>h.elim hz ht)
      clear hz ht;have H2:=Hi (HR.out.alloc (.cells #[.int .i64 a.k,.int .i64 a.i,.string a.s] 26));obtain⟨g0,g1,g2⟩:=H2.out.box.cells;obtain⟨f0,f1,f2⟩:=H2.out.box.free;simp only[zV]at g0 g1 g2;go_wp2_with fail;obtain⟨q1,q2⟩:=HBAD.out (fun h=>HF.out h.1)
      exact bodyPost_ret (v:= .tuple #[.agg #[.int .i64 0,.int .i64 0,.string ⟨#[]⟩],.int .i64 20]) (by simp[results,Tryz.results120,go_sem,g0,g1,g2]) rfl ⟨ret_vx q2 q1,Below.set3 H2.out.below (by omega) _ _ _⟩
   ·have HFA:=Hi hfa
    clear hfa
    by_cases hz:b.k=0
    ·have hz':(b.k != 0)=false:=by simpa using hz
     have HF:=Hi (show fitI b from Or.inl hz)
     clear hz;go_wp2_with fail
     go_roundw
     case rel=>exact⟨Or.inr (Or.inr ⟨rfl,HFA.out,HF.out⟩),HR.out.alloc _,HA.out.later ((Below.refl _ wr).alloc (Nat.le_refl _) _)⟩
     case measure=>simp[intOf]
    ·have hz':(b.k != 0)=true:=by simpa using hz
     by_cases ht:b.k=2
     ·have ht':(b.k != 2)=false:=by simpa using ht
      have HF:=Hi (show fitI b from Or.inr ht)
      clear hz ht;go_wp2_with fail
      go_roundw
      case rel=>exact⟨Or.inr (Or.inr ⟨rfl,HFA.out,HF.out⟩),HR.out.alloc _,HA.out.later ((Below.refl _ wr).alloc (Nat.le_refl _) _)⟩
      case measure=>simp[intOf]
     ·have ht':(b.k != 2)=true:=by simpa using ht
      have HF:=Hi (show ¬fitI b from fun h=>h.elim hz ht)
      clear hz ht;have H2:=Hi (HR.out.alloc (.cells #[.int .i64 b.k,.int .i64 b.i,.string b.s] 26));obtain⟨g0,g1,g2⟩:=H2.out.box.cells;obtain⟨f0,f1,f2⟩:=H2.out.box.free;simp only[zV]at g0 g1 g2;go_wp2_with fail;obtain⟨q1,q2⟩:=HBAD.out (fun h=>HF.out h.2)
      exact bodyPost_ret (v:= .tuple #[.agg #[.int .i64 0,.int .i64 0,.string ⟨#[]⟩],.int .i64 20]) (by simp[results,Tryz.results120,go_sem,g0,g1,g2]) rfl ⟨ret_vx q2 q1,Below.set3 H2.out.below (by omega) _ _ _⟩
   ·have HFF:=Hi (And.intro hfa hfb)
    have HA0:=Hi hfa;have HB0:=Hi hfb;clear hfa hfb k0 k1 k2 k3 k4 k5;obtain⟨d0,d1,d2⟩:=HR.out.tail.tail.box.cells;obtain⟨c0,c1,c2⟩:=HR.out.tail.box.cells;obtain⟨g0,g1,g2⟩:=HR.out.box.cells;obtain⟨f0,f1,f2⟩:=HR.out.box.free;simp only[zV]at g0 g1 g2;cases hza:(a.k == 0)
    ·cases hzb:(b.k == 0)
     ·have HN:=Hi (HNUM.out HFF.out (by simp[nulB,hza,hzb]))
      go_wp2_with fail;refine(HG.out _).mono ?_;rintro e w5 ⟨rfl,hd⟩;have H5:=Hi (HR.out.call hd.below);clear d0 d1 d2 c0 c1 c2 g0 g1 g2 f0 f1 f2 hd
      by_cases hy:y=0
      ·have HY:=Hi hy
       subst hy;go_wp2_with fail;refine(rint1_any _ _).mono ?_;rintro e w6 ⟨rfl,b6⟩;have H6:=Hi (H5.out.call b6);obtain⟨g0,g1,g2⟩:=H6.out.box.cells;obtain⟨f0,f1,f2⟩:=H6.out.box.free;simp only[zV]at g0 g1 g2;go_wp2_with fail;exact bodyPost_ret (v:= .tuple #[.agg #[.int .i64 2,.int .i64 x,.string ⟨#[]⟩],.int .i64 0]) (by simp[results,Tryz.results120,go_sem,g0,g1,g2]) rfl ⟨ret_vx (u:=nV x) (by rw[←HN.out.2];rfl) HN.out.1,Below.set3 H6.out.below (by omega) _ _ _⟩
      ·have hy':(y != 0)=true:=by simpa using hy
       have HY:=Hi hy;clear hy;obtain⟨g0,g1,g2⟩:=H5.out.box.cells;obtain⟨f0,f1,f2⟩:=H5.out.box.free;simp only[zV]at g0 g1 g2;go_wp2_with fail;exact bodyPost_ret (v:= .tuple #[.agg #[.int .i64 0,.int .i64 0,.string ⟨#[]⟩],.int .i64 y]) (by simp[results,Tryz.results120,go_sem,g0,g1,g2]) rfl ⟨ret_vx (u:=zV) (by rw[←HN.out.2,if_neg HY.out]) HN.out.1,Below.set3 H5.out.below (by omega) _ _ _⟩
     ·have HN:=Hi (HNUL.out HFF.out (by simp[nulB,hza,hzb]))
      go_wp2_with fail;exact bodyPost_ret (v:= .tuple #[.agg #[.int .i64 0,.int .i64 0,.string ⟨#[]⟩],.int .i64 0]) (by simp[results,Tryz.results120,go_sem,g0,g1,g2]) rfl ⟨ret_vx HN.out.2 HN.out.1,Below.set3 HR.out.below (by omega) _ _ _⟩
    ·have HN:=Hi (HNUL.out HFF.out (by simp[nulB,hza]))
     go_wp2_with fail;exact bodyPost_ret (v:= .tuple #[.agg #[.int .i64 0,.int .i64 0,.string ⟨#[]⟩],.int .i64 0]) (by simp[results,Tryz.results120,go_sem,g0,g1,g2]) rfl ⟨ret_vx HN.out.2 HN.out.1,Below.set3 HR.out.below (by omega) _ _ _⟩
theorem rarith5(a b:V)(w:World)(ha:In64 a.i)(hb:In64 b.i)(hok:allOk [a,b]=true) :
  Calls Tryz.prog 120 #[.string ⟨#[37]⟩,.agg #[.int .i64 a.k,.int .i64 a.i,.string a.s],.agg #[.int .i64 b.k,.int .i64 b.i,.string b.s]] w fun e w'=>e = .returned (.tuple #[.agg #[.int .i64 (arV ⟨#[37]⟩ a b).k,.int .i64 (arV ⟨#[37]⟩ a b).i,.string (arV ⟨#[37]⟩ a b).s],.int .i64 (arE ⟨#[37]⟩ a b)])∧Below w.heap.size w w':=by
 have hp:opk ⟨#[37]⟩=5:=by unfold opk;simp only[Lib.toList_data];rfl
 have h0:¬opk ⟨#[37]⟩=0:=by omega
 have HB:=Hi (three_boxes w a b);have HM:=Hi (fun W H hH=>rmay2_any a b W H hH)
 rw[hok]at HM
 have HBAD:Hid (¬(fitI a∧fitI b)→20=arE ⟨#[37]⟩ a b∧zV=arV ⟨#[37]⟩ a b):=fun h=>by
  have h':okK [4,4,0] [a,b]=false:=by
   cases hq:okK [4,4,0] [a,b]
   ·rfl
   ·exact absurd (okI.1 hq) h
  exact⟨(ar_kind h0 hok h').1.symm,(ar_kind h0 hok h').2.symm⟩
 have HNUL:Hid (fitI a∧fitI b→nulB [a,b]=true→0=arE ⟨#[37]⟩ a b∧zV=arV ⟨#[37]⟩ a b):=fun h hn=>⟨(ar_null h0 hok (okI.2 h) hn).1.symm,(ar_null h0 hok (okI.2 h) hn).2.symm⟩
 have HNUM:Hid (fitI a∧fitI b→nulB [a,b]=false→numE 5 a.i b.i=arE ⟨#[37]⟩ a b∧(if numE 5 a.i b.i=0 then nV (numR 5 a.i b.i)else zV)=arV ⟨#[37]⟩ a b):=fun h hn=>by
  obtain⟨q1,q2⟩:=ar_num h0 hok (okI.2 h) hn;rw[hp]at q1 q2;exact⟨q1.symm,q2.symm⟩
 have HG:=Hi (fun w=>rar5 a.i b.i w ha hb)
 generalize arE ⟨#[37]⟩ a b=E at *;generalize arV ⟨#[37]⟩ a b=R at *;generalize numR 5 a.i b.i=x at *;generalize numE 5 a.i b.i=y at *;clear ha hb hok hp h0;have HL:=Hi (fun(W:World) (H:Nat) (hH:W.heap.size=H)=>args_row2 hH a b)
 go_enter Tryz.func120,Tryz.ntmps120;go_wp2_with fail;refine(HM.out _ _ (by simp)).mono ?_
 rintro e w1 ⟨rfl,b1,s1⟩;have P1:=Hi (HB.out.call (bele b1 (by simp)))
 clear b1;obtain⟨c0,c1,c2⟩:=P1.out.tail.box.cells;obtain⟨d0,d1,d2⟩:=P1.out.tail.tail.box.cells;go_wp2_with fail;clear c0 c1 c2 d0 d1 d2
 go_loopw [42] (fun i wr=>(i = .int .i64 0∨(i = .int .i64 1∧fitI a)∨(i = .int .i64 2∧fitI a∧fitI b))∧Hid (HV w [(w.heap.size+2,zV),(w.heap.size+1,b),(w.heap.size,a)] wr)∧Hid (Args wr w1.heap.size [a,b])) (fun i _=>(2 - intOf i).toNat)
 case atStart=>exact⟨Or.inl rfl,P1.out.alloc _,HL.out w1 _ rfl⟩
 case round =>
  obtain⟨hi,HR,HA⟩:=hrel;have k0:wr.cell? ⟨w1.heap.size,0,none⟩=some (.int .i64 a.k):=HA.out.cell 0;have k1:wr.cell? ⟨w1.heap.size,1,none⟩=some (.int .i64 a.i):=HA.out.cell 1;have k2:wr.cell? ⟨w1.heap.size,2,none⟩=some (.string a.s):=HA.out.cell 2;have k3:wr.cell? ⟨w1.heap.size,3,none⟩=some (.int .i64 b.k):=HA.out.cell 3;have k4:wr.cell? ⟨w1.heap.size,4,none⟩=some (.int .i64 b.i):=HA.out.cell 4;have k5:wr.cell? ⟨w1.heap.size,5,none⟩=some (.string b.s):=HA.out.cell 5;rcases hi with rfl | ⟨rfl,hfa⟩ | ⟨rfl,hfa,hfb⟩
  ·skip
   skip
   by_cases hz:a.k=0
   ·have hz':(a.k != 0)=false:=by simpa using hz
    have HF:=Hi (show fitI a from Or.inl hz)
    clear hz;go_wp2_with fail
    go_roundw
    case rel=>exact⟨Or.inr (Or.inl ⟨rfl,HF.out⟩),HR.out.alloc _,HA.out.later ((Below.refl _ wr).alloc (Nat.le_refl _) _)⟩
    case measure=>simp[intOf]
   ·have hz':(a.k != 0)=true:=by simpa using hz
    by_cases ht:a.k=2
    ·have ht':(a.k != 2)=false:=by simpa using ht
     have HF:=Hi (show fitI a from Or.inr ht)
     clear hz ht;go_wp2_with fail
     go_roundw
     case rel=>exact⟨Or.inr (Or.inl ⟨rfl,HF.out⟩),HR.out.alloc _,HA.out.later ((Below.refl _ wr).alloc (Nat.le_refl _) _)⟩
     case measure=>simp[intOf]
    ·have ht':(a.k != 2)=true:=by simpa using ht
     have HF:=Hi (show ¬fitI a from fun h=>h.elim hz ht)
     clear hz ht;have H2:=Hi (HR.out.alloc (.cells #[.int .i64 a.k,.int .i64 a.i,.string a.s] 26));obtain⟨g0,g1,g2⟩:=H2.out.box.cells;obtain⟨f0,f1,f2⟩:=H2.out.box.free;simp only[zV]at g0 g1 g2;go_wp2_with fail;obtain⟨q1,q2⟩:=HBAD.out (fun h=>HF.out h.1)
     exact bodyPost_ret (v:= .tuple #[.agg #[.int .i64 0,.int .i64 0,.string ⟨#[]⟩],.int .i64 20]) (by simp[results,Tryz.results120,go_sem,g0,g1,g2]) rfl ⟨ret_vx q2 q1,Below.set3 H2.out.below (by omega) _ _ _⟩
  ·have HFA:=Hi hfa
   clear hfa
   by_cases hz:b.k=0
   ·have hz':(b.k != 0)=false:=by simpa using hz
    have HF:=Hi (show fitI b from Or.inl hz)
    clear hz;go_wp2_with fail
    go_roundw
    case rel=>exact⟨Or.inr (Or.inr ⟨rfl,HFA.out,HF.out⟩),HR.out.alloc _,HA.out.later ((Below.refl _ wr).alloc (Nat.le_refl _) _)⟩
    case measure=>simp[intOf]
   ·have hz':(b.k != 0)=true:=by simpa using hz
    by_cases ht:b.k=2
    ·have ht':(b.k != 2)=false:=by simpa using ht
     have HF:=Hi (show fitI b from Or.inr ht)
     clear hz ht;go_wp2_with fail
     go_roundw
     case rel=>exact⟨Or.inr (Or.inr ⟨rfl,HFA.out,HF.out⟩),HR.out.alloc _,HA.out.later ((Below.refl _ wr).alloc (Nat.le_refl _) _)⟩
     case measure=>simp[intOf]
    ·have ht':(b.k != 2)=true:=by simpa using ht
     have HF:=Hi (show ¬fitI b from fun h=>h.elim hz ht)
     clear hz ht;have H2:=Hi (HR.out.alloc (.cells #[.int .i64 b.k,.int .i64 b.i,.string b.s] 26));obtain⟨g0,g1,g2⟩:=H2.out.box.cells;obtain⟨f0,f1,f2⟩:=H2.out.box.free;simp only[zV]at g0 g1 g2;go_wp2_with fail;obtain⟨q1,q2⟩:=HBAD.out (fun h=>HF.out h.2)
     exact bodyPost_ret (v:= .tuple #[.agg #[.int .i64 0,.int .i64 0,.string ⟨#[]⟩],.int .i64 20]) (by simp[results,Tryz.results120,go_sem,g0,g1,g2]) rfl ⟨ret_vx q2 q1,Below.set3 H2.out.below (by omega) _ _ _⟩
  ·have HFF:=Hi (And.intro hfa hfb)
   have HA0:=Hi hfa;have HB0:=Hi hfb;clear hfa hfb k0 k1 k2 k3 k4 k5;obtain⟨d0,d1,d2⟩:=HR.out.tail.tail.box.cells;obtain⟨c0,c1,c2⟩:=HR.out.tail.box.cells;obtain⟨g0,g1,g2⟩:=HR.out.box.cells;obtain⟨f0,f1,f2⟩:=HR.out.box.free;simp only[zV]at g0 g1 g2;cases hza:(a.k == 0)
   ·cases hzb:(b.k == 0)
    ·have HN:=Hi (HNUM.out HFF.out (by simp[nulB,hza,hzb]))
     go_wp2_with fail;refine(HG.out _).mono ?_;rintro e w5 ⟨rfl,hd⟩;have H5:=Hi (HR.out.call hd.below);clear d0 d1 d2 c0 c1 c2 g0 g1 g2 f0 f1 f2 hd
     by_cases hy:y=0
     ·have HY:=Hi hy
      subst hy;go_wp2_with fail;refine(rint1_any _ _).mono ?_;rintro e w6 ⟨rfl,b6⟩;have H6:=Hi (H5.out.call b6);obtain⟨g0,g1,g2⟩:=H6.out.box.cells;obtain⟨f0,f1,f2⟩:=H6.out.box.free;simp only[zV]at g0 g1 g2;go_wp2_with fail;exact bodyPost_ret (v:= .tuple #[.agg #[.int .i64 2,.int .i64 x,.string ⟨#[]⟩],.int .i64 0]) (by simp[results,Tryz.results120,go_sem,g0,g1,g2]) rfl ⟨ret_vx (u:=nV x) (by rw[←HN.out.2];rfl) HN.out.1,Below.set3 H6.out.below (by omega) _ _ _⟩
     ·have hy':(y != 0)=true:=by simpa using hy
      have HY:=Hi hy;clear hy;obtain⟨g0,g1,g2⟩:=H5.out.box.cells;obtain⟨f0,f1,f2⟩:=H5.out.box.free;simp only[zV]at g0 g1 g2;go_wp2_with fail;exact bodyPost_ret (v:= .tuple #[.agg #[.int .i64 0,.int .i64 0,.string ⟨#[]⟩],.int .i64 y]) (by simp[results,Tryz.results120,go_sem,g0,g1,g2]) rfl ⟨ret_vx (u:=zV) (by rw[←HN.out.2,if_neg HY.out]) HN.out.1,Below.set3 H5.out.below (by omega) _ _ _⟩
    ·have HN:=Hi (HNUL.out HFF.out (by simp[nulB,hza,hzb]))
     go_wp2_with fail;exact bodyPost_ret (v:= .tuple #[.agg #[.int .i64 0,.int .i64 0,.string ⟨#[]⟩],.int .i64 0]) (by simp[results,Tryz.results120,go_sem,g0,g1,g2]) rfl ⟨ret_vx HN.out.2 HN.out.1,Below.set3 HR.out.below (by omega) _ _ _⟩
   ·have HN:=Hi (HNUL.out HFF.out (by simp[nulB,hza]))
    go_wp2_with fail;exact bodyPost_ret (v:= .tuple #[.agg #[.int .i64 0,.int .i64 0,.string ⟨#[]⟩],.int .i64 0]) (by simp[results,Tryz.results120,go_sem,g0,g1,g2]) rfl ⟨ret_vx HN.out.2 HN.out.1,Below.set3 HR.out.below (by omega) _ _ _⟩
theorem rarith_any(op:ByteArray)(a b:V)(w:World)(ha:In64 a.i)(hb:In64 b.i) :
  Calls Tryz.prog 120 #[.string op,.agg #[.int .i64 a.k,.int .i64 a.i,.string a.s],.agg #[.int .i64 b.k,.int .i64 b.i,.string b.s]] w fun e w'=>e = .returned (.tuple #[.agg #[.int .i64 (arV op a b).k,.int .i64 (arV op a b).i,.string (arV op a b).s],.int .i64 (arE op a b)])∧Below w.heap.size w w':=by
 cases hok:allOk [a,b]
 ·exact rarith_bad op a b w hok
 ·rcases opk_cases op with ⟨rfl,-⟩ | ⟨rfl,-⟩ | ⟨rfl,-⟩ | ⟨rfl,-⟩ | ⟨rfl,-⟩ | ⟨h0,h1,h2,h3,h4,h5⟩
  ·exact rarith1 _ 1 (.inl ⟨rfl,rfl⟩) a b w ha hb hok
  ·exact rarith1 _ 2 (.inr (.inl ⟨rfl,rfl⟩)) a b w ha hb hok
  ·exact rarith1 _ 3 (.inr (.inr (.inl ⟨rfl,rfl⟩))) a b w ha hb hok
  ·exact rarith1 _ 4 (.inr (.inr (.inr ⟨rfl,rfl⟩))) a b w ha hb hok
  ·exact rarith5 a b w ha hb hok
  ·exact rarith0 op a b w hok h1 h2 h3 h4 h5 h0
end Go.Proofs.YtcicpjgnpcnnmaaGreatDoor.SC
namespace Go.Proofs.YtcicpjgnpcnnmaaGreatDoor.BV
end Go.Proofs.YtcicpjgnpcnnmaaGreatDoor.BV
namespace Go.Proofs.YtcicpjgnpcnnmaaGreatDoor.SC
open BV
open Go.RowKit
theorem neg_boxes(w:World)(v:V):HV w [(w.heap.size+1,zV),(w.heap.size,v)] ((w.alloc (.cells #[.int .i64 v.k,.int .i64 v.i,.string v.s] 26)).alloc (.cells #[.int .i64 0,.int .i64 0,.string ⟨#[]⟩] 26)) :=
 ((HV.nil w).push v).pushAt (by simp) zV
theorem neg_any(v:V)(w:World)(hv:In64 v.i):Calls Tryz.prog 88 #[.agg #[.int .i64 v.k,.int .i64 v.i,.string v.s]] w fun e w'=>e = .returned (.tuple #[.agg #[.int .i64 (arV ⟨#[45]⟩ (nV 0) v).k,.int .i64 (arV ⟨#[45]⟩ (nV 0) v).i,.string (arV ⟨#[45]⟩ (nV 0) v).s],.int .i64 (arE ⟨#[45]⟩ (nV 0) v)])∧Below w.heap.size w w':=by
 have H0:=Hi (neg_boxes w v);have HA:Hid (∀ w,Calls Tryz.prog 91 #[.string ⟨#[45]⟩,.agg #[.int .i64 2,.int .i64 0,.string ⟨#[]⟩],.agg #[.int .i64 v.k,.int .i64 v.i,.string v.s]] w fun e w'=>e = .returned (.tuple #[.agg #[.int .i64 (arV ⟨#[45]⟩ (nV 0) v).k,.int .i64 (arV ⟨#[45]⟩ (nV 0) v).i,.string (arV ⟨#[45]⟩ (nV 0) v).s],.int .i64 (arE ⟨#[45]⟩ (nV 0) v)])∧Below w.heap.size w w'):=fun w=>arith_any ⟨#[45]⟩ (nV 0) v w (show In64 0 by unfold In64;omega) hv
 generalize arV ⟨#[45]⟩ (nV 0) v=R at *;generalize arE ⟨#[45]⟩ (nV 0) v=E at *;clear hv;go_enter Tryz.func88,Tryz.ntmps88;go_wp2_with fail;generalize (w.alloc (.cells #[.int .i64 v.k,.int .i64 v.i,.string v.s] 26)).alloc (.cells #[.int .i64 0,.int .i64 0,.string ⟨#[]⟩] 26)=W0 at *;have H1:=Hi H0.out.drew;obtain⟨c0,c1,c2⟩:=H1.out.tail.box.cells
 go_region_with (first | (go_at_call 138;refine(number_any _ _).mono ?_;rintro e w5 ⟨rfl,hb5⟩;have H5:=Hi (H1.out.call hb5);obtain⟨d0,d1,d2⟩:=H5.out.tail.box.cells) | (go_at_call 91;refine(HA.out _).mono ?_;rintro e w6 ⟨rfl,hb6⟩;have H6:=Hi (H5.out.call hb6);obtain⟨g0,g1,g2⟩:=H6.out.box.cells;obtain⟨f0,f1,f2⟩:=H6.out.box.free;simp only[zV]at g0 g1 g2))
 all_goals go_wp2_with fail
 all_goals exact bodyPost_ret (v:= .tuple #[.agg #[.int .i64 R.k,.int .i64 R.i,.string R.s],.int .i64 E]) (by simp[results,Tryz.results88,go_sem,g0,g1,g2]) rfl ⟨rfl,Below.set3 H6.out.below (by omega) _ _ _⟩
theorem rneg_any(v:V)(w:World)(hv:In64 v.i):Calls Tryz.prog 114 #[.agg #[.int .i64 v.k,.int .i64 v.i,.string v.s]] w fun e w'=>e = .returned (.tuple #[.agg #[.int .i64 (arV ⟨#[45]⟩ (nV 0) v).k,.int .i64 (arV ⟨#[45]⟩ (nV 0) v).i,.string (arV ⟨#[45]⟩ (nV 0) v).s],.int .i64 (arE ⟨#[45]⟩ (nV 0) v)])∧Below w.heap.size w w':=by
 have H0:=Hi (neg_boxes w v);have HA:Hid (∀ w,Calls Tryz.prog 120 #[.string ⟨#[45]⟩,.agg #[.int .i64 2,.int .i64 0,.string ⟨#[]⟩],.agg #[.int .i64 v.k,.int .i64 v.i,.string v.s]] w fun e w'=>e = .returned (.tuple #[.agg #[.int .i64 (arV ⟨#[45]⟩ (nV 0) v).k,.int .i64 (arV ⟨#[45]⟩ (nV 0) v).i,.string (arV ⟨#[45]⟩ (nV 0) v).s],.int .i64 (arE ⟨#[45]⟩ (nV 0) v)])∧Below w.heap.size w w'):=fun w=>rarith_any ⟨#[45]⟩ (nV 0) v w (show In64 0 by unfold In64;omega) hv
 generalize arV ⟨#[45]⟩ (nV 0) v=R at *;generalize arE ⟨#[45]⟩ (nV 0) v=E at *;clear hv;go_enter Tryz.func114,Tryz.ntmps114;go_wp2_with fail;generalize (w.alloc (.cells #[.int .i64 v.k,.int .i64 v.i,.string v.s] 26)).alloc (.cells #[.int .i64 0,.int .i64 0,.string ⟨#[]⟩] 26)=W0 at *;have H1:=Hi H0.out.drew;obtain⟨c0,c1,c2⟩:=H1.out.tail.box.cells
 go_region_with (first | (go_at_call 27;refine(rint1_any _ _).mono ?_;rintro e w5 ⟨rfl,hb5⟩;have H5:=Hi (H1.out.call hb5);obtain⟨d0,d1,d2⟩:=H5.out.tail.box.cells) | (go_at_call 120;refine(HA.out _).mono ?_;rintro e w6 ⟨rfl,hb6⟩;have H6:=Hi (H5.out.call hb6);obtain⟨g0,g1,g2⟩:=H6.out.box.cells;obtain⟨f0,f1,f2⟩:=H6.out.box.free;simp only[zV]at g0 g1 g2))
 all_goals go_wp2_with fail
 all_goals exact bodyPost_ret (v:= .tuple #[.agg #[.int .i64 R.k,.int .i64 R.i,.string R.s],.int .i64 E]) (by simp[results,Tryz.results114,go_sem,g0,g1,g2]) rfl ⟨rfl,Below.set3 H6.out.below (by omega) _ _ _⟩
end Go.Proofs.YtcicpjgnpcnnmaaGreatDoor.SC
