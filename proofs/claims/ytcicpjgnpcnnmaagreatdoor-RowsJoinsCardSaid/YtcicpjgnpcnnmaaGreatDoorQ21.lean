import Derived.Test.YtcicpjgnpcnnmaaGreatDoorQ20
set_option maxRecDepth 100000
set_option maxHeartbeats 4000000
set_option linter.unusedSimpArgs false
set_option linter.unusedVariables false
namespace Go.Proofs.YtcicpjgnpcnnmaaGreatDoor
open Go.RowKit
open SC (HV VBox zero_box Args FnBox)
theorem callNo(nm:ByteArray)(hx:SC.look nm=none)(xs:List BV.V)(H:Nat)(w:World) :
  Calls Tryz.prog 94 #[.string nm,.slice (some ⟨H,0,none⟩) xs.length xs.length] w fun e w'=>e = .returned (vA (1,zW))∧Below w.heap.size w w':=by
 have HZ:=Hi (zero_box w)
 have HF:Hid (∀ w,Calls Tryz.prog 143 #[.string nm] w fun e w'=>e = .returned (.tuple #[.agg #[.string ⟨#[]⟩,.int .i64 0,.int .i64 0,.int .u64 0,.int .u64 0,.int .u64 0,.nilFunc],.bool false])∧Below w.heap.size w w'):=by
  intro w;have h:=SC.find_any nm w;rw[hx]at h;exact h
 unfold vA zW;generalize xs.length=n at *;clear hx;go_enter Tryz.func94,Tryz.ntmps94;go_wp2_with fail;refine(HF.out _).mono ?_;rintro e w1 ⟨rfl,b1⟩;have P1:=Hi ((HZ.out.call b1).alloc (.cells #[.string ⟨#[]⟩,.int .i64 0,.int .i64 0,.int .u64 0,.int .u64 0,.int .u64 0,.nilFunc] 163));clear b1;obtain⟨g0,g1,g2⟩:=P1.out.box.cells;obtain⟨f0,f1,f2⟩:=P1.out.box.free;simp only[SC.zV]at g0 g1 g2;go_wp2_with fail;exact bodyPost_ret (v:= .tuple #[.agg #[.int .i64 0,.int .i64 0,.string ⟨#[]⟩],.int .i64 1]) (by simp[results,Tryz.results94,go_sem,g0,g1,g2]) rfl ⟨rfl,by first | exact set3_new P1.out.below _ _ _ | exact P1.out.below⟩
theorem callBad1(nm:ByteArray)(x:SC.Fn)(hx:SC.look nm=some x)(xs:List BV.V)(H:Nat)(w:World)(ht:SC.takesB x.lo x.hi xs.length=false) :
  Calls Tryz.prog 94 #[.string nm,.slice (some ⟨H,0,none⟩) xs.length xs.length] w fun e w'=>e = .returned (vA (1,zW))∧Below w.heap.size w w':=by
 have HZ:=Hi (zero_box w)
 have HF:Hid (∀ w,Calls Tryz.prog 143 #[.string nm] w fun e w'=>e = .returned (.tuple #[.agg #[.string x.nm,.int .i64 x.lo,.int .i64 x.hi,.int .u64 x.k0,.int .u64 x.k1,.int .u64 x.k2,.func (.func x.f) #[] #[]],.bool true])∧Below w.heap.size w w'):=by
  intro w;have h:=SC.find_any nm w;rw[hx]at h;exact h
 have HT:Hid (∀ w,Calls Tryz.prog 144 #[.agg #[.string x.nm,.int .i64 x.lo,.int .i64 x.hi,.int .u64 x.k0,.int .u64 x.k1,.int .u64 x.k2,.func (.func x.f) #[] #[]],.int .i64 xs.length] w fun e w'=>e = .returned (.bool false)∧Below w.heap.size w w'):=by
  intro w;have h:=SC.takes_any x xs.length w;rw[ht]at h;exact h
 unfold vA zW;generalize xs.length=n at *;clear hx ht;go_enter Tryz.func94,Tryz.ntmps94;go_wp2_with fail;refine(HF.out _).mono ?_;rintro e w1 ⟨rfl,b1⟩;have P1:=Hi ((HZ.out.call b1).alloc (.cells #[.string x.nm,.int .i64 x.lo,.int .i64 x.hi,.int .u64 x.k0,.int .u64 x.k1,.int .u64 x.k2,.func (.func x.f) #[] #[]] 163));have B1:=Hi (FnBox.made w1 x);clear b1;go_wp2_with fail;refine(HT.out _).mono ?_;rintro e w2 ⟨rfl,b2⟩;have P2:=Hi (P1.out.call b2);have B2:=Hi (B1.out.later b2);clear b2;obtain⟨g0,g1,g2⟩:=P2.out.box.cells;obtain⟨f0,f1,f2⟩:=P2.out.box.free;simp only[SC.zV]at g0 g1 g2;go_wp2_with fail;exact bodyPost_ret (v:= .tuple #[.agg #[.int .i64 0,.int .i64 0,.string ⟨#[]⟩],.int .i64 1]) (by simp[results,Tryz.results94,go_sem,g0,g1,g2]) rfl ⟨rfl,by first | exact set3_new P2.out.below _ _ _ | exact P2.out.below⟩
theorem callBad2(nm:ByteArray)(x:SC.Fn)(hx:SC.look nm=some x)(xs:List BV.V)(H:Nat)(w:World)(hA:Args w H xs)(hm:xs.length≤2000)(ht:SC.takesB x.lo x.hi xs.length=true)(hok:BV.allOk xs=false) :
  Calls Tryz.prog 94 #[.string nm,.slice (some ⟨H,0,none⟩) xs.length xs.length] w fun e w'=>e = .returned (vA (1,zW))∧Below w.heap.size w w':=by
 have HZ:=Hi (zero_box w)
 have HF:Hid (∀ w,Calls Tryz.prog 143 #[.string nm] w fun e w'=>e = .returned (.tuple #[.agg #[.string x.nm,.int .i64 x.lo,.int .i64 x.hi,.int .u64 x.k0,.int .u64 x.k1,.int .u64 x.k2,.func (.func x.f) #[] #[]],.bool true])∧Below w.heap.size w w'):=by
  intro w;have h:=SC.find_any nm w;rw[hx]at h;exact h
 have HT:Hid (∀ w,Calls Tryz.prog 144 #[.agg #[.string x.nm,.int .i64 x.lo,.int .i64 x.hi,.int .u64 x.k0,.int .u64 x.k1,.int .u64 x.k2,.func (.func x.f) #[] #[]],.int .i64 xs.length] w fun e w'=>e = .returned (.bool true)∧Below w.heap.size w w'):=by
  intro w;have h:=SC.takes_any x xs.length w;rw[ht]at h;exact h
 have HW:Hid (∀ W,Below w.heap.size w W→Calls Tryz.prog 141 #[.slice (some ⟨H,0,none⟩) xs.length xs.length] W fun e w'=>e = .returned (.bool true)∧Below W.heap.size W w'):=by
  intro W hW;have h:=SC.wrong_any xs _ xs.length W (hA.later hW).row (by omega)
  rw[hok]at h;exact h
 unfold vA zW;generalize xs.length=n at *;clear hx ht hA hok hm;go_enter Tryz.func94,Tryz.ntmps94;go_wp2_with fail;refine(HF.out _).mono ?_;rintro e w1 ⟨rfl,b1⟩;have P1:=Hi ((HZ.out.call b1).alloc (.cells #[.string x.nm,.int .i64 x.lo,.int .i64 x.hi,.int .u64 x.k0,.int .u64 x.k1,.int .u64 x.k2,.func (.func x.f) #[] #[]] 163));have B1:=Hi (FnBox.made w1 x);clear b1;go_wp2_with fail;refine(HT.out _).mono ?_;rintro e w2 ⟨rfl,b2⟩;have P2:=Hi (P1.out.call b2);have B2:=Hi (B1.out.later b2);clear b2;go_wp2_with fail;refine(HW.out _ P2.out.below).mono ?_;rintro e w3 ⟨rfl,b3⟩;have P3:=Hi (P2.out.call b3);have B3:=Hi (B2.out.later b3);clear b3;obtain⟨g0,g1,g2⟩:=P3.out.box.cells;obtain⟨f0,f1,f2⟩:=P3.out.box.free;simp only[SC.zV]at g0 g1 g2;go_wp2_with fail;exact bodyPost_ret (v:= .tuple #[.agg #[.int .i64 0,.int .i64 0,.string ⟨#[]⟩],.int .i64 1]) (by simp[results,Tryz.results94,go_sem,g0,g1,g2]) rfl ⟨rfl,by first | exact set3_new P3.out.below _ _ _ | exact P3.out.below⟩
theorem callNull(nm:ByteArray)(x:SC.Fn)(hx:SC.look nm=some x)(xs:List BV.V)(H:Nat)(w:World)(hA:Args w H xs)(h3:xs.length≤3)(ht:SC.takesB x.lo x.hi xs.length=true)(hok:BV.allOk xs=true)
  (hk:∀ j (h:j < xs.length),SC.KindOk ([x.k0,x.k1,x.k2][j]'(by simp;omega)))(hneq:∀ w,(binOp .neq 160 (.agg #[.int .u64 x.k0,.int .u64 x.k1,.int .u64 x.k2]) (.agg #[.int .u64 0,.int .u64 0,.int .u64 0])).run Tryz.prog w = .ok (.bool true) w)
  (hs:SC.okK [x.k0,x.k1,x.k2] xs=false∨SC.nulB xs=true) :
  Calls Tryz.prog 94 #[.string nm,.slice (some ⟨H,0,none⟩) xs.length xs.length] w fun e w'=>e = .returned (vA (if SC.okK [x.k0,x.k1,x.k2] xs=false then 20 else 0,zW))∧Below w.heap.size w w':=by
 have hm:xs.length≤2000:=by omega
 have HZ:=Hi (zero_box w)
 have HF:Hid (∀ w,Calls Tryz.prog 143 #[.string nm] w fun e w'=>e = .returned (.tuple #[.agg #[.string x.nm,.int .i64 x.lo,.int .i64 x.hi,.int .u64 x.k0,.int .u64 x.k1,.int .u64 x.k2,.func (.func x.f) #[] #[]],.bool true])∧Below w.heap.size w w'):=by
  intro w;have h:=SC.find_any nm w;rw[hx]at h;exact h
 have HT:Hid (∀ w,Calls Tryz.prog 144 #[.agg #[.string x.nm,.int .i64 x.lo,.int .i64 x.hi,.int .u64 x.k0,.int .u64 x.k1,.int .u64 x.k2,.func (.func x.f) #[] #[]],.int .i64 xs.length] w fun e w'=>e = .returned (.bool true)∧Below w.heap.size w w'):=by
  intro w;have h:=SC.takes_any x xs.length w;rw[ht]at h;exact h
 have HW:Hid (∀ W,Below w.heap.size w W→Calls Tryz.prog 141 #[.slice (some ⟨H,0,none⟩) xs.length xs.length] W fun e w'=>e = .returned (.bool false)∧Below W.heap.size W w'):=by
  intro W hW;have h:=SC.wrong_any xs _ xs.length W (hA.later hW).row (by omega)
  rw[hok]at h;exact h
 have HS:Hid (∀ W,Below w.heap.size w W→Calls Tryz.prog 142 #[.agg #[.int .u64 x.k0,.int .u64 x.k1,.int .u64 x.k2],.slice (some ⟨H,0,none⟩) xs.length xs.length] W fun e w'=>e = .returned (.tuple #[.bool (SC.stN [x.k0,x.k1,x.k2] xs),.int .i64 (SC.stE [x.k0,x.k1,x.k2] xs)])∧Below W.heap.size W w'):=by
  intro W hW;exact SC.strict_any x.k0 x.k1 x.k2 xs _ xs.length W (hA.later hW).row h3 hk hok
 unfold vA zW
 have hr:(SC.stN [x.k0,x.k1,x.k2] xs=true∨(SC.stN [x.k0,x.k1,x.k2] xs=false∧(SC.stE [x.k0,x.k1,x.k2] xs != 0)=true))∧SC.stE [x.k0,x.k1,x.k2] xs=if SC.okK [x.k0,x.k1,x.k2] xs=false then 20 else 0:=by
  unfold SC.stN SC.stE;rcases hs with h | h
  ·rw[h];simp
  ·cases hq:SC.okK [x.k0,x.k1,x.k2] xs <;> simp[h]
 obtain⟨hr1,hr2⟩:=hr;rw[←hr2];generalize SC.stN [x.k0,x.k1,x.k2] xs=sn at *;generalize SC.stE [x.k0,x.k1,x.k2] xs=se at *;clear hx ht hA hok hm hk h3 hs hr2;generalize xs.length=n at *;rcases hr1 with rfl | ⟨rfl,hse⟩
 all_goals
  go_enter Tryz.func94,Tryz.ntmps94;go_wp2_with fail;refine(HF.out _).mono ?_;rintro e w1 ⟨rfl,b1⟩;have P1:=Hi ((HZ.out.call b1).alloc (.cells #[.string x.nm,.int .i64 x.lo,.int .i64 x.hi,.int .u64 x.k0,.int .u64 x.k1,.int .u64 x.k2,.func (.func x.f) #[] #[]] 163));have B1:=Hi (FnBox.made w1 x);clear b1;go_wp2_with fail;refine(HT.out _).mono ?_;rintro e w2 ⟨rfl,b2⟩;have P2:=Hi (P1.out.call b2);have B2:=Hi (B1.out.later b2);clear b2;go_wp2_with fail;refine(HW.out _ P2.out.below).mono ?_;rintro e w3 ⟨rfl,b3⟩;have P3:=Hi (P2.out.call b3);have B3:=Hi (B2.out.later b3);clear b3;obtain⟨d0,d1,d2,d3,d4,d5,d6⟩:=B3.out.cells;go_wp2_with fail;refine(HS.out _ P3.out.below).mono ?_;rintro e w4 ⟨rfl,b4⟩;have P4:=Hi (P3.out.call b4);clear b4 d0 d1 d2 d3 d4 d5 d6;obtain⟨g0,g1,g2⟩:=P4.out.box.cells;obtain⟨f0,f1,f2⟩:=P4.out.box.free;simp only[SC.zV]at g0 g1 g2;go_wp2_with fail;exact bodyPost_ret (v:= .tuple #[.agg #[.int .i64 0,.int .i64 0,.string ⟨#[]⟩],.int .i64 se]) (by simp[results,Tryz.results94,go_sem,g0,g1,g2]) rfl ⟨rfl,by first | exact set3_new P4.out.below _ _ _ | exact P4.out.below⟩
theorem callDoG(nm:ByteArray)(x:SC.Fn)(hx:SC.look nm=some x)(hent:Proofs.Enters Tryz.prog x.f)(hneq:∀ w,(binOp .neq 160 (.agg #[.int .u64 x.k0,.int .u64 x.k1,.int .u64 x.k2]) (.agg #[.int .u64 0,.int .u64 0,.int .u64 0])).run Tryz.prog w = .ok (.bool true) w)(xs:List BV.V)(r:Ans)(H:Nat)(w:World)(hA:Args w H xs)(ht:SC.takesB x.lo x.hi xs.length=true)(hok:BV.allOk xs=true)(h3:xs.length≤3)(hk:∀ j (h:j < xs.length),SC.KindOk ([x.k0,x.k1,x.k2][j]'(by simp;omega)))(hs:SC.okK [x.k0,x.k1,x.k2] xs=true)(hn:SC.nulB xs=false)
  (hdo:∀ W,Below w.heap.size w W→Calls Tryz.prog x.f #[.slice (some ⟨H,0,none⟩) xs.length xs.length] W fun e w'=>e = .returned (vA r)∧Below W.heap.size W w') :
  Calls Tryz.prog 94 #[.string nm,.slice (some ⟨H,0,none⟩) xs.length xs.length] w fun e w'=>e = .returned (vA r)∧Below w.heap.size w w':=by
 have hm:xs.length≤2000:=by omega
 have HZ:=Hi (zero_box w)
 have HF:Hid (∀ w,Calls Tryz.prog 143 #[.string nm] w fun e w'=>e = .returned (.tuple #[.agg #[.string x.nm,.int .i64 x.lo,.int .i64 x.hi,.int .u64 x.k0,.int .u64 x.k1,.int .u64 x.k2,.func (.func x.f) #[] #[]],.bool true])∧Below w.heap.size w w'):=by
  intro w;have h:=SC.find_any nm w;rw[hx]at h;exact h
 have HT:Hid (∀ w,Calls Tryz.prog 144 #[.agg #[.string x.nm,.int .i64 x.lo,.int .i64 x.hi,.int .u64 x.k0,.int .u64 x.k1,.int .u64 x.k2,.func (.func x.f) #[] #[]],.int .i64 xs.length] w fun e w'=>e = .returned (.bool true)∧Below w.heap.size w w'):=by
  intro w;have h:=SC.takes_any x xs.length w;rw[ht]at h;exact h
 have HW:Hid (∀ W,Below w.heap.size w W→Calls Tryz.prog 141 #[.slice (some ⟨H,0,none⟩) xs.length xs.length] W fun e w'=>e = .returned (.bool false)∧Below W.heap.size W w'):=by
  intro W hW;have h:=SC.wrong_any xs _ xs.length W (hA.later hW).row (by omega)
  rw[hok]at h;exact h
 have HS:Hid (∀ W,Below w.heap.size w W→Calls Tryz.prog 142 #[.agg #[.int .u64 x.k0,.int .u64 x.k1,.int .u64 x.k2],.slice (some ⟨H,0,none⟩) xs.length xs.length] W fun e w'=>e = .returned (.tuple #[.bool false,.int .i64 0])∧Below W.heap.size W w'):=by
  intro W hW;have h:=SC.strict_any x.k0 x.k1 x.k2 xs _ xs.length W (hA.later hW).row h3 hk hok;unfold SC.stN SC.stE at h;rw[hs,hn]at h;exact h
 have HDO:=Hi hdo;obtain⟨er,uk,ui,us⟩:=r;unfold vA at *;simp only at HDO ⊢;clear hx ht hA hok hm hdo hk h3 hs hn;generalize xs.length=n at *;have hen:∀ (args:Array Value) (w:World),(callFunc x.f args).run Tryz.prog w = .ok (.enter x.f args) w:=hent;clear hent;go_enter Tryz.func94,Tryz.ntmps94;go_wp2_with fail;refine(HF.out _).mono ?_;rintro e w1 ⟨rfl,b1⟩;have P1:=Hi ((HZ.out.call b1).alloc (.cells #[.string x.nm,.int .i64 x.lo,.int .i64 x.hi,.int .u64 x.k0,.int .u64 x.k1,.int .u64 x.k2,.func (.func x.f) #[] #[]] 163));have B1:=Hi (FnBox.made w1 x);clear b1;go_wp2_with fail;refine(HT.out _).mono ?_;rintro e w2 ⟨rfl,b2⟩;have P2:=Hi (P1.out.call b2);have B2:=Hi (B1.out.later b2);clear b2;go_wp2_with fail;refine(HW.out _ P2.out.below).mono ?_;rintro e w3 ⟨rfl,b3⟩;have P3:=Hi (P2.out.call b3);have B3:=Hi (B2.out.later b3);clear b3;obtain⟨d0,d1,d2,d3,d4,d5,d6⟩:=B3.out.cells;go_wp2_with fail;refine(HS.out _ P3.out.below).mono ?_;rintro e w4 ⟨rfl,b4⟩;have P4:=Hi (P3.out.call b4);have B4:=Hi (B3.out.later b4);clear b4 d0 d1 d2 d3 d4 d5 d6;obtain⟨d0,d1,d2,d3,d4,d5,d6⟩:=B4.out.cells;go_wp2_with fail;refine(HDO.out _ P4.out.below).mono ?_;rintro e w5 ⟨rfl,b5⟩;have P5:=Hi (P4.out.call b5);clear b5 d0 d1 d2 d3 d4 d5 d6;obtain⟨g0,g1,g2⟩:=P5.out.box.cells;obtain⟨f0,f1,f2⟩:=P5.out.box.free;simp only[SC.zV]at g0 g1 g2;go_wp2_with fail;exact bodyPost_ret (v:= .tuple #[.agg #[.int .i64 uk,.int .i64 ui,.string us],.int .i64 er]) (by simp[results,Tryz.results94,go_sem,g0,g1,g2]) rfl ⟨rfl,by first | exact set3_new P5.out.below _ _ _ | exact P5.out.below⟩
theorem callDoZ(nm:ByteArray)(x:SC.Fn)(hx:SC.look nm=some x)(hent:Proofs.Enters Tryz.prog x.f)(hneq:∀ w,(binOp .neq 160 (.agg #[.int .u64 x.k0,.int .u64 x.k1,.int .u64 x.k2]) (.agg #[.int .u64 0,.int .u64 0,.int .u64 0])).run Tryz.prog w = .ok (.bool false) w)(xs:List BV.V)(r:Ans)(H:Nat)(w:World)(hA:Args w H xs)(hm:xs.length≤2000)(ht:SC.takesB x.lo x.hi xs.length=true)(hok:BV.allOk xs=true)
  (hdo:∀ W,Below w.heap.size w W→Calls Tryz.prog x.f #[.slice (some ⟨H,0,none⟩) xs.length xs.length] W fun e w'=>e = .returned (vA r)∧Below W.heap.size W w') :
  Calls Tryz.prog 94 #[.string nm,.slice (some ⟨H,0,none⟩) xs.length xs.length] w fun e w'=>e = .returned (vA r)∧Below w.heap.size w w':=by
 have HZ:=Hi (zero_box w)
 have HF:Hid (∀ w,Calls Tryz.prog 143 #[.string nm] w fun e w'=>e = .returned (.tuple #[.agg #[.string x.nm,.int .i64 x.lo,.int .i64 x.hi,.int .u64 x.k0,.int .u64 x.k1,.int .u64 x.k2,.func (.func x.f) #[] #[]],.bool true])∧Below w.heap.size w w'):=by
  intro w;have h:=SC.find_any nm w;rw[hx]at h;exact h
 have HT:Hid (∀ w,Calls Tryz.prog 144 #[.agg #[.string x.nm,.int .i64 x.lo,.int .i64 x.hi,.int .u64 x.k0,.int .u64 x.k1,.int .u64 x.k2,.func (.func x.f) #[] #[]],.int .i64 xs.length] w fun e w'=>e = .returned (.bool true)∧Below w.heap.size w w'):=by
  intro w;have h:=SC.takes_any x xs.length w;rw[ht]at h;exact h
 have HW:Hid (∀ W,Below w.heap.size w W→Calls Tryz.prog 141 #[.slice (some ⟨H,0,none⟩) xs.length xs.length] W fun e w'=>e = .returned (.bool false)∧Below W.heap.size W w'):=by
  intro W hW;have h:=SC.wrong_any xs _ xs.length W (hA.later hW).row (by omega)
  rw[hok]at h;exact h
 have HDO:=Hi hdo;obtain⟨er,uk,ui,us⟩:=r;unfold vA at *;simp only at HDO ⊢;clear hx ht hA hok hm hdo;generalize xs.length=n at *;have hen:∀ (args:Array Value) (w:World),(callFunc x.f args).run Tryz.prog w = .ok (.enter x.f args) w:=hent;clear hent;go_enter Tryz.func94,Tryz.ntmps94;go_wp2_with fail;refine(HF.out _).mono ?_;rintro e w1 ⟨rfl,b1⟩;have P1:=Hi ((HZ.out.call b1).alloc (.cells #[.string x.nm,.int .i64 x.lo,.int .i64 x.hi,.int .u64 x.k0,.int .u64 x.k1,.int .u64 x.k2,.func (.func x.f) #[] #[]] 163));have B1:=Hi (FnBox.made w1 x);clear b1;go_wp2_with fail;refine(HT.out _).mono ?_;rintro e w2 ⟨rfl,b2⟩;have P2:=Hi (P1.out.call b2);have B2:=Hi (B1.out.later b2);clear b2;go_wp2_with fail;refine(HW.out _ P2.out.below).mono ?_;rintro e w3 ⟨rfl,b3⟩;have P3:=Hi (P2.out.call b3);have B3:=Hi (B2.out.later b3);clear b3;obtain⟨d0,d1,d2,d3,d4,d5,d6⟩:=B3.out.cells;go_wp2_with fail;refine(HDO.out _ P3.out.below).mono ?_;rintro e w5 ⟨rfl,b5⟩;have P5:=Hi (P3.out.call b5);clear b5 d0 d1 d2 d3 d4 d5 d6;obtain⟨g0,g1,g2⟩:=P5.out.box.cells;obtain⟨f0,f1,f2⟩:=P5.out.box.free;simp only[SC.zV]at g0 g1 g2;go_wp2_with fail;exact bodyPost_ret (v:= .tuple #[.agg #[.int .i64 uk,.int .i64 ui,.string us],.int .i64 er]) (by simp[results,Tryz.results94,go_sem,g0,g1,g2]) rfl ⟨rfl,by first | exact set3_new P5.out.below _ _ _ | exact P5.out.below⟩
end Go.Proofs.YtcicpjgnpcnnmaaGreatDoor
