import Derived.Test.YtcicpjgnpcnnmaaGreatDoorQ64
import Derived.Test.YtcicpjgnpcnnmaaGreatDoorQ18
set_option maxRecDepth 100000
set_option maxHeartbeats 2000000
set_option linter.unusedSimpArgs false
set_option linter.unusedVariables false
namespace Go.Proofs.YtcicpjgnpcnnmaaGreatDoor
open Go.RowKit
open SC (HV VBox)
theorem rc_substr0(v:BV.V)(xs:List BV.V)(A:Option Addr)(c:Nat)(w:World)(hr:BV.RowAt w w.heap.size A xs)(h0:0 < xs.length)(hv:xs[0]=v)(u x:BV.V)(h1:1 < xs.length)(h2:2 < xs.length)(hu:xs[1]=u)(hx:xs[2]=x)(hn:x.i < 0) :
  Calls Tryz.prog 113 #[.string ⟨#[115,117,98,115,116,114]⟩,.slice A xs.length c] w (VR w (zW) (1)):=by
 obtain⟨b,off,W1,W2,rfl,CB⟩:=cb_make hr h0;rw[hv]at CB;have HV1:Hid (w.heap.size+1 < W2.heap.size):=Hi (by have:=CB.z2;omega)
 have HVB:Hid (b < W2.heap.size):=Hi (by have:=CB.z2;have:=CB.lt;omega)
 have HNB:Hid (b≠w.heap.size):=Hi (by have:=CB.lt;omega)
 have HR:=Hi (fun W (hb:Below W2.heap.size W2 W)=>(show BV.CellsAt W b (off+3) u from hu ▸ CB.row W hb 1 h1))
 have HRX:=Hi (fun W (hb:Below W2.heap.size W2 W)=>(show BV.CellsAt W b (off+6) x from hx ▸ CB.row W hb 2 h2))
 obtain⟨a0,a1,a2⟩:=CB.hv.box.cells;obtain⟨r0,r1,r2⟩:=CB.hv.tail.box.cells;obtain⟨f0,f1,f2⟩:=CB.hv.tail.box.free;have d0:=CB.c0;have d1:=CB.c1;have d2:=CB.c2;have E1:=Hi CB.e1;have E2:=Hi CB.e2;have HZ1:=Hi CB.z1;have HH:=Hi CB.hv;have HL:Hid (0 < xs.length):=Hi h0;simp only[zW]at r0 r1 r2;have hz1:=CB.z1;have h1z:(1:Int) < (xs.length:Int):=by omega
 have h2z:(2:Int) < (xs.length:Int):=by omega
 clear hu hx;clear hr hv h0 h1 h2;generalize xs.length=n at *;have h0z:(0:Int) < (n:Int):=by have:=HL.out;omega
 obtain⟨H,hH⟩:∃ H,H=w.heap.size:=⟨_,rfl⟩;have s2:=(HRX.out _ (Below.refl _ W2)).2.1;have s2':W2.cell? ⟨b,off+7,none⟩=some (.int .i64 x.i):=s2;obtain⟨g0,g1,g2⟩:=HH.out.tail.box.cells;simp only[zW]at g0 g1 g2;go_enter Tryz.func113,Tryz.ntmps113
 go_wp2_with (first | (rw[←E2.out]) | (rw[←E1.out]))
 exact bodyPost_ret (v:= .tuple #[.agg #[.int .i64 0,.int .i64 0,.string ⟨#[]⟩],.int .i64 1]) (by simp[results,Tryz.results113,go_sem,g0,g1,g2]) rfl ⟨rfl,vset3 HH.out.below (Nat.le_refl _) _ _ _⟩
theorem rc_substr1(v:BV.V)(xs:List BV.V)(A:Option Addr)(c:Nat)(w:World)(hr:BV.RowAt w w.heap.size A xs)(h0:0 < xs.length)(hv:xs[0]=v)(u x:BV.V)(h1:1 < xs.length)(h2:2 < xs.length)(hu:xs[1]=u)(hx:xs[2]=x)(hn:¬x.i < 0)(hs:v.s.size≤100000000)(hi : -9223372036854775808≤u.i∧u.i≤9223372036854775807)(hi2:x.i≤9223372036854775807) :
  Calls Tryz.prog 113 #[.string ⟨#[115,117,98,115,116,114]⟩,.slice A xs.length c] w (VR w (⟨v.k,0,SC.pc v.s u.i x.i⟩) (0)):=by
 obtain⟨b,off,W1,W2,rfl,CB⟩:=cb_make hr h0;rw[hv]at CB;have HV1:Hid (w.heap.size+1 < W2.heap.size):=Hi (by have:=CB.z2;omega)
 have HVB:Hid (b < W2.heap.size):=Hi (by have:=CB.z2;have:=CB.lt;omega)
 have HNB:Hid (b≠w.heap.size):=Hi (by have:=CB.lt;omega)
 have HR:=Hi (fun W (hb:Below W2.heap.size W2 W)=>(show BV.CellsAt W b (off+3) u from hu ▸ CB.row W hb 1 h1))
 have HRX:=Hi (fun W (hb:Below W2.heap.size W2 W)=>(show BV.CellsAt W b (off+6) x from hx ▸ CB.row W hb 2 h2))
 obtain⟨a0,a1,a2⟩:=CB.hv.box.cells;obtain⟨r0,r1,r2⟩:=CB.hv.tail.box.cells;obtain⟨f0,f1,f2⟩:=CB.hv.tail.box.free;have d0:=CB.c0;have d1:=CB.c1;have d2:=CB.c2;have E1:=Hi CB.e1;have E2:=Hi CB.e2;have HZ1:=Hi CB.z1;have HH:=Hi CB.hv;have HL:Hid (0 < xs.length):=Hi h0;simp only[zW]at r0 r1 r2;have hz1:=CB.z1;have h1z:(1:Int) < (xs.length:Int):=by omega
 have h2z:(2:Int) < (xs.length:Int):=by omega
 clear hu hx;clear hr hv h0 h1 h2;generalize xs.length=n at *;have h0z:(0:Int) < (n:Int):=by have:=HL.out;omega
 obtain⟨H,hH⟩:∃ H,H=w.heap.size:=⟨_,rfl⟩;have HX:=Hi (fun W=>part_txt v.s u.i x.i hs hi (by omega) hi2 W)
 have s2:=(HRX.out _ (Below.refl _ W2)).2.1;have s2':W2.cell? ⟨b,off+7,none⟩=some (.int .i64 x.i):=s2;generalize SC.pc v.s u.i x.i=R at *;go_enter Tryz.func113,Tryz.ntmps113
 go_wp2_with (first | (rw[←E2.out]) | (rw[←E1.out]))
 clear s2 s2';have KP:Hid (∀ w',Bx w.heap.size W2 w'→(Bx w.heap.size W2 w'∧w'.cell? ⟨w.heap.size+1,0,none⟩=some (.int .i64 v.k)∧w'.cell? ⟨w.heap.size+1,2,none⟩=some (.string v.s)∧w'.cell? ⟨b,off+4,none⟩=some (.int .i64 u.i)∧w'.cell? ⟨b,off+7,none⟩=some (.int .i64 x.i)∧True)):=Hi fun w' hb=>⟨hb,((hb.cell HV1.out (by omega)).trans HH.out.box.cells.1),((hb.cell HV1.out (by omega)).trans HH.out.box.cells.2.2),((hb.cell HVB.out HNB.out).trans (HR.out W2 (Below.refl _ _)).2.1),((hb.cell HVB.out HNB.out).trans (HRX.out W2 (Below.refl _ _)).2.1),trivial⟩
 have BB:=Hi (Bx.of (H:=w.heap.size) (Below.refl W2.heap.size W2));have SS:=Hi (KP.out W2 BB.out)
 go_region_held3 (fun w'=>Bx w.heap.size W2 w'∧w'.cell? ⟨w.heap.size+1,0,none⟩=some (.int .i64 v.k)∧w'.cell? ⟨w.heap.size+1,2,none⟩=some (.string v.s)∧w'.cell? ⟨b,off+4,none⟩=some (.int .i64 u.i)∧w'.cell? ⟨b,off+7,none⟩=some (.int .i64 x.i)∧True) ((refine KP.out _ ?_;(repeat(first | with_reducible exact BB.out | with_reducible refine Bx.drew ?_ | with_reducible refine Bx.alloc ?_ _ | with_reducible refine Bx.set ?_ _ _)))) ((first
  | (go_at_call 153;(with_reducible refine(HX.out _).mono ?_;rintro r w8 ⟨rfl,b8⟩;have B0:=Hi (bthA (bel_drewE (Below.refl _ W2)) b8);have BB:=Hi (Bx.of (H:=w.heap.size) B0.out);have H5:=Hi (HH.out.call B0.out);obtain⟨g0,g1,g2⟩:=H5.out.tail.box.cells;obtain⟨k0,k1,k2⟩:=H5.out.tail.box.free;simp only[zW]at g0 g1 g2;clear b8))))
 all_goals go_wp2_with fail
 all_goals exact bodyPost_ret (v:= .tuple #[.agg #[.int .i64 v.k,.int .i64 0,.string R],.int .i64 0]) (by simp[results,Tryz.results113,go_sem,g0,g1,g2]) rfl ⟨rfl,vset3 H5.out.below (Nat.le_refl _) _ _ _⟩
theorem rc_repl0(v:BV.V)(xs:List BV.V)(A:Option Addr)(c:Nat)(w:World)(hr:BV.RowAt w w.heap.size A xs)(h0:0 < xs.length)(hv:xs[0]=v)(u x:BV.V)(h1:1 < xs.length)(h2:2 < xs.length)(hu:xs[1]=u)(hx:xs[2]=x)(he:u.s=⟨#[]⟩) :
  Calls Tryz.prog 113 #[.string ⟨#[114,101,112,108,97,99,101]⟩,.slice A xs.length c] w (VR w (txtV v.s) (0)):=by
 obtain⟨b,off,W1,W2,rfl,CB⟩:=cb_make hr h0;rw[hv]at CB;have HV1:Hid (w.heap.size+1 < W2.heap.size):=Hi (by have:=CB.z2;omega)
 have HVB:Hid (b < W2.heap.size):=Hi (by have:=CB.z2;have:=CB.lt;omega)
 have HNB:Hid (b≠w.heap.size):=Hi (by have:=CB.lt;omega)
 have HR:=Hi (fun W (hb:Below W2.heap.size W2 W)=>(show BV.CellsAt W b (off+3) u from hu ▸ CB.row W hb 1 h1))
 have HRX:=Hi (fun W (hb:Below W2.heap.size W2 W)=>(show BV.CellsAt W b (off+6) x from hx ▸ CB.row W hb 2 h2))
 obtain⟨a0,a1,a2⟩:=CB.hv.box.cells;obtain⟨r0,r1,r2⟩:=CB.hv.tail.box.cells;obtain⟨f0,f1,f2⟩:=CB.hv.tail.box.free;have d0:=CB.c0;have d1:=CB.c1;have d2:=CB.c2;have E1:=Hi CB.e1;have E2:=Hi CB.e2;have HZ1:=Hi CB.z1;have HH:=Hi CB.hv;have HL:Hid (0 < xs.length):=Hi h0;simp only[zW]at r0 r1 r2;have hz1:=CB.z1;have h1z:(1:Int) < (xs.length:Int):=by omega
 have h2z:(2:Int) < (xs.length:Int):=by omega
 clear hu hx;clear hr hv h0 h1 h2;generalize xs.length=n at *;have h0z:(0:Int) < (n:Int):=by have:=HL.out;omega
 obtain⟨H,hH⟩:∃ H,H=w.heap.size:=⟨_,rfl⟩;have HX:=Hi (fun W=>repl_empty v.s x.s W)
 have HR2:Hid (∀ W,Below W2.heap.size W2 W→W.cell? ⟨b,off+5,none⟩=some (.string ⟨#[]⟩)):=Hi fun W hb=>by rw[←he];exact(HR.out W hb).2.2
 go_enter Tryz.func113,Tryz.ntmps113
 go_wp2_with (first | (rw[←E2.out]) | (rw[←E1.out]))
 have KP:Hid (∀ w',Bx w.heap.size W2 w'→(Bx w.heap.size W2 w'∧w'.cell? ⟨w.heap.size+1,2,none⟩=some (.string v.s)∧w'.cell? ⟨b,off+5,none⟩=some (.string ⟨#[]⟩)∧w'.cell? ⟨b,off+8,none⟩=some (.string x.s)∧True)):=Hi fun w' hb=>⟨hb,((hb.cell HV1.out (by omega)).trans HH.out.box.cells.2.2),((hb.cell HVB.out HNB.out).trans (HR2.out W2 (Below.refl _ _))),((hb.cell HVB.out HNB.out).trans (HRX.out W2 (Below.refl _ _)).2.2),trivial⟩
 have BB:=Hi (Bx.of (H:=w.heap.size) (Below.refl W2.heap.size W2));have SS:=Hi (KP.out W2 BB.out)
 go_region_held3 (fun w'=>Bx w.heap.size W2 w'∧w'.cell? ⟨w.heap.size+1,2,none⟩=some (.string v.s)∧w'.cell? ⟨b,off+5,none⟩=some (.string ⟨#[]⟩)∧w'.cell? ⟨b,off+8,none⟩=some (.string x.s)∧True) ((refine KP.out _ ?_;(repeat(first | with_reducible exact BB.out | with_reducible refine Bx.drew ?_ | with_reducible refine Bx.alloc ?_ _ | with_reducible refine Bx.set ?_ _ _)))) ((first
  | (go_at_call 155;(with_reducible refine(HX.out _).mono ?_;rintro r w8 ⟨rfl,b8⟩;have B0:=Hi (bthA (bel_drewE (Below.refl _ W2)) b8);have BB:=Hi (Bx.of (H:=w.heap.size) B0.out);have H5:=Hi (HH.out.call B0.out);obtain⟨g0,g1,g2⟩:=H5.out.tail.box.cells;obtain⟨k0,k1,k2⟩:=H5.out.tail.box.free;simp only[zW]at g0 g1 g2;clear b8))))
 all_goals go_wp2_with fail
 all_goals (refine(rtext1R _ _).mono ?_;rintro q w7 ⟨rfl,b7⟩;have H7:=Hi (H5.out.call b7);obtain⟨m0,m1,m2⟩:=H7.out.tail.box.cells;obtain⟨i0,i1,i2⟩:=H7.out.tail.box.free;simp only[zW]at m0 m1 m2;go_wp2_with fail;exact bodyPost_ret (v:= .tuple #[.agg #[.int .i64 3,.int .i64 0,.string v.s],.int .i64 0]) (by simp[results,Tryz.results113,go_sem,m0,m1,m2]) rfl ⟨rfl,vset3 H7.out.below (Nat.le_refl _) _ _ _⟩)
theorem rc_repl1(v:BV.V)(xs:List BV.V)(A:Option Addr)(c:Nat)(w:World)(hr:BV.RowAt w w.heap.size A xs)(h0:0 < xs.length)(hv:xs[0]=v)(u x:BV.V)(h1:1 < xs.length)(h2:2 < xs.length)(hu:xs[1]=u)(hx:xs[2]=x)(R:ByteArray)(hX:∀ W,Calls Tryz.prog 155 #[.string v.s,.string u.s,.string x.s] W fun q w'=>q = .returned (.tuple #[.string R,.int .i64 0])∧Below W.heap.size W w') :
  Calls Tryz.prog 113 #[.string ⟨#[114,101,112,108,97,99,101]⟩,.slice A xs.length c] w (VR w (txtV R) (0)):=by
 obtain⟨b,off,W1,W2,rfl,CB⟩:=cb_make hr h0;rw[hv]at CB;have HV1:Hid (w.heap.size+1 < W2.heap.size):=Hi (by have:=CB.z2;omega)
 have HVB:Hid (b < W2.heap.size):=Hi (by have:=CB.z2;have:=CB.lt;omega)
 have HNB:Hid (b≠w.heap.size):=Hi (by have:=CB.lt;omega)
 have HR:=Hi (fun W (hb:Below W2.heap.size W2 W)=>(show BV.CellsAt W b (off+3) u from hu ▸ CB.row W hb 1 h1))
 have HRX:=Hi (fun W (hb:Below W2.heap.size W2 W)=>(show BV.CellsAt W b (off+6) x from hx ▸ CB.row W hb 2 h2))
 obtain⟨a0,a1,a2⟩:=CB.hv.box.cells;obtain⟨r0,r1,r2⟩:=CB.hv.tail.box.cells;obtain⟨f0,f1,f2⟩:=CB.hv.tail.box.free;have d0:=CB.c0;have d1:=CB.c1;have d2:=CB.c2;have E1:=Hi CB.e1;have E2:=Hi CB.e2;have HZ1:=Hi CB.z1;have HH:=Hi CB.hv;have HL:Hid (0 < xs.length):=Hi h0;simp only[zW]at r0 r1 r2;have hz1:=CB.z1;have h1z:(1:Int) < (xs.length:Int):=by omega
 have h2z:(2:Int) < (xs.length:Int):=by omega
 clear hu hx;clear hr hv h0 h1 h2;generalize xs.length=n at *;have h0z:(0:Int) < (n:Int):=by have:=HL.out;omega
 obtain⟨H,hH⟩:∃ H,H=w.heap.size:=⟨_,rfl⟩;have HX:=Hi hX;clear hX;go_enter Tryz.func113,Tryz.ntmps113
 go_wp2_with (first | (rw[←E2.out]) | (rw[←E1.out]))
 have KP:Hid (∀ w',Bx w.heap.size W2 w'→(Bx w.heap.size W2 w'∧w'.cell? ⟨w.heap.size+1,2,none⟩=some (.string v.s)∧w'.cell? ⟨b,off+5,none⟩=some (.string u.s)∧w'.cell? ⟨b,off+8,none⟩=some (.string x.s)∧True)):=Hi fun w' hb=>⟨hb,((hb.cell HV1.out (by omega)).trans HH.out.box.cells.2.2),((hb.cell HVB.out HNB.out).trans (HR.out W2 (Below.refl _ _)).2.2),((hb.cell HVB.out HNB.out).trans (HRX.out W2 (Below.refl _ _)).2.2),trivial⟩
 have BB:=Hi (Bx.of (H:=w.heap.size) (Below.refl W2.heap.size W2));have SS:=Hi (KP.out W2 BB.out)
 go_region_held3 (fun w'=>Bx w.heap.size W2 w'∧w'.cell? ⟨w.heap.size+1,2,none⟩=some (.string v.s)∧w'.cell? ⟨b,off+5,none⟩=some (.string u.s)∧w'.cell? ⟨b,off+8,none⟩=some (.string x.s)∧True) ((refine KP.out _ ?_;(repeat(first | with_reducible exact BB.out | with_reducible refine Bx.drew ?_ | with_reducible refine Bx.alloc ?_ _ | with_reducible refine Bx.set ?_ _ _)))) ((first
  | (go_at_call 155;(with_reducible refine(HX.out _).mono ?_;rintro r w8 ⟨rfl,b8⟩;have B0:=Hi (bthA (bel_drewE (Below.refl _ W2)) b8);have BB:=Hi (Bx.of (H:=w.heap.size) B0.out);have H5:=Hi (HH.out.call B0.out);obtain⟨g0,g1,g2⟩:=H5.out.tail.box.cells;obtain⟨k0,k1,k2⟩:=H5.out.tail.box.free;simp only[zW]at g0 g1 g2;clear b8))))
 all_goals go_wp2_with fail
 all_goals (refine(rtext1R _ _).mono ?_;rintro q w7 ⟨rfl,b7⟩;have H7:=Hi (H5.out.call b7);obtain⟨m0,m1,m2⟩:=H7.out.tail.box.cells;obtain⟨i0,i1,i2⟩:=H7.out.tail.box.free;simp only[zW]at m0 m1 m2;go_wp2_with fail;exact bodyPost_ret (v:= .tuple #[.agg #[.int .i64 3,.int .i64 0,.string R],.int .i64 0]) (by simp[results,Tryz.results113,go_sem,m0,m1,m2]) rfl ⟨rfl,vset3 H7.out.below (Nat.le_refl _) _ _ _⟩)
theorem rc_repl2(v:BV.V)(xs:List BV.V)(A:Option Addr)(c:Nat)(w:World)(hr:BV.RowAt w w.heap.size A xs)(h0:0 < xs.length)(hv:xs[0]=v)(u x:BV.V)(h1:1 < xs.length)(h2:2 < xs.length)(hu:xs[1]=u)(hx:xs[2]=x)(hX:∀ W,Calls Tryz.prog 155 #[.string v.s,.string u.s,.string x.s] W fun q w'=>q = .returned (.tuple #[.string ⟨#[]⟩,.int .i64 30])∧Below W.heap.size W w') :
  Calls Tryz.prog 113 #[.string ⟨#[114,101,112,108,97,99,101]⟩,.slice A xs.length c] w (VR w (zW) (30)):=by
 obtain⟨b,off,W1,W2,rfl,CB⟩:=cb_make hr h0;rw[hv]at CB;have HV1:Hid (w.heap.size+1 < W2.heap.size):=Hi (by have:=CB.z2;omega)
 have HVB:Hid (b < W2.heap.size):=Hi (by have:=CB.z2;have:=CB.lt;omega)
 have HNB:Hid (b≠w.heap.size):=Hi (by have:=CB.lt;omega)
 have HR:=Hi (fun W (hb:Below W2.heap.size W2 W)=>(show BV.CellsAt W b (off+3) u from hu ▸ CB.row W hb 1 h1))
 have HRX:=Hi (fun W (hb:Below W2.heap.size W2 W)=>(show BV.CellsAt W b (off+6) x from hx ▸ CB.row W hb 2 h2))
 obtain⟨a0,a1,a2⟩:=CB.hv.box.cells;obtain⟨r0,r1,r2⟩:=CB.hv.tail.box.cells;obtain⟨f0,f1,f2⟩:=CB.hv.tail.box.free;have d0:=CB.c0;have d1:=CB.c1;have d2:=CB.c2;have E1:=Hi CB.e1;have E2:=Hi CB.e2;have HZ1:=Hi CB.z1;have HH:=Hi CB.hv;have HL:Hid (0 < xs.length):=Hi h0;simp only[zW]at r0 r1 r2;have hz1:=CB.z1;have h1z:(1:Int) < (xs.length:Int):=by omega
 have h2z:(2:Int) < (xs.length:Int):=by omega
 clear hu hx;clear hr hv h0 h1 h2;generalize xs.length=n at *;have h0z:(0:Int) < (n:Int):=by have:=HL.out;omega
 obtain⟨H,hH⟩:∃ H,H=w.heap.size:=⟨_,rfl⟩;have HX:=Hi hX;clear hX;go_enter Tryz.func113,Tryz.ntmps113
 go_wp2_with (first | (rw[←E2.out]) | (rw[←E1.out]))
 have KP:Hid (∀ w',Bx w.heap.size W2 w'→(Bx w.heap.size W2 w'∧w'.cell? ⟨w.heap.size+1,2,none⟩=some (.string v.s)∧w'.cell? ⟨b,off+5,none⟩=some (.string u.s)∧w'.cell? ⟨b,off+8,none⟩=some (.string x.s)∧True)):=Hi fun w' hb=>⟨hb,((hb.cell HV1.out (by omega)).trans HH.out.box.cells.2.2),((hb.cell HVB.out HNB.out).trans (HR.out W2 (Below.refl _ _)).2.2),((hb.cell HVB.out HNB.out).trans (HRX.out W2 (Below.refl _ _)).2.2),trivial⟩
 have BB:=Hi (Bx.of (H:=w.heap.size) (Below.refl W2.heap.size W2));have SS:=Hi (KP.out W2 BB.out)
 go_region_held3 (fun w'=>Bx w.heap.size W2 w'∧w'.cell? ⟨w.heap.size+1,2,none⟩=some (.string v.s)∧w'.cell? ⟨b,off+5,none⟩=some (.string u.s)∧w'.cell? ⟨b,off+8,none⟩=some (.string x.s)∧True) ((refine KP.out _ ?_;(repeat(first | with_reducible exact BB.out | with_reducible refine Bx.drew ?_ | with_reducible refine Bx.alloc ?_ _ | with_reducible refine Bx.set ?_ _ _)))) ((first
  | (go_at_call 155;(with_reducible refine(HX.out _).mono ?_;rintro r w8 ⟨rfl,b8⟩;have B0:=Hi (bthA (bel_drewE (Below.refl _ W2)) b8);have BB:=Hi (Bx.of (H:=w.heap.size) B0.out);have H5:=Hi (HH.out.call B0.out);obtain⟨g0,g1,g2⟩:=H5.out.tail.box.cells;obtain⟨k0,k1,k2⟩:=H5.out.tail.box.free;simp only[zW]at g0 g1 g2;clear b8))))
 all_goals go_wp2_with fail
 all_goals exact bodyPost_ret (v:= .tuple #[.agg #[.int .i64 0,.int .i64 0,.string ⟨#[]⟩],.int .i64 30]) (by simp[results,Tryz.results113,go_sem,g0,g1,g2]) rfl ⟨rfl,vset3 H5.out.below (Nat.le_refl _) _ _ _⟩
end Go.Proofs.YtcicpjgnpcnnmaaGreatDoor
