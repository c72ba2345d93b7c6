import Derived.Test.YtcicpjgnpcnnmaaGreatDoorQ02
import Derived.Lib.ConvBytes
import Derived.Laws.BytesString
import Derived.Laws.Cells
set_option maxRecDepth 100000
set_option maxHeartbeats 2000000
namespace Go.Proofs.YtcicpjgnpcnnmaaGreatDoor.BV
end Go.Proofs.YtcicpjgnpcnnmaaGreatDoor.BV
namespace Go.Proofs.YtcicpjgnpcnnmaaGreatDoor.SC
open BV
open Go.RowKit
def pcA(n:Nat)(m:Int):Nat:=(min (max m 1) ((n:Int)+1)).toNat - 1
def pcB(n:Nat)(m k:Int):Nat:=if m < 1∨k < (n:Int)+1 - m then (min (max (m+k) (min (max m 1) ((n:Int)+1))) ((n:Int)+1)).toNat - 1 else n
def pc(s:ByteArray)(m k:Int):ByteArray:=s.extract (pcA s.size m) (pcB s.size m k)
theorem ret_str{a b:ByteArray}(h:a=b):Ending.returned (.string a) = .returned (.string b):=by rw[h]
theorem piece_any(s:ByteArray)(m k:Int)(w:World)(hs:s.size≤140737488355328)(hm:In64 m)(hk:0≤k)(hk':k≤9223372036854775807) :
  Calls Tryz.prog 212 #[.string s,.int .i64 m,.int .i64 k] w fun e w'=>e = .returned (.string (pc s m k))∧w=w':=by
 unfold In64 at hm;go_enter Tryz.func212,Tryz.ntmps212;go_wp2_with fail
 all_goals go_ret
 all_goals
  refine⟨ret_str ?_,rfl⟩;unfold pc pcA pcB
  first
  | rw[if_pos (by omega)]
  | rw[if_neg (by omega)]
end Go.Proofs.YtcicpjgnpcnnmaaGreatDoor.SC
namespace Go.Proofs.YtcicpjgnpcnnmaaGreatDoor.BV
end Go.Proofs.YtcicpjgnpcnnmaaGreatDoor.BV
namespace Go.Proofs.YtcicpjgnpcnnmaaGreatDoor.SC
open BV
open Go.RowKit
def Args(w:World)(H:Nat)(xs:List V):Prop:=w.heap[H]? = some (.cells (flat xs).toArray 26 (0,0))
theorem Args.lt{w:World}{H:Nat}{xs:List V}(h:Args w H xs):H < w.heap.size:=(Array.getElem?_eq_some_iff.1 h).1
theorem Args.later{w w':World}{H:Nat}{xs:List V}(h:Args w H xs)(hb:Below w.heap.size w w'):Args w' H xs:=(hb.block H h.lt).trans h
theorem Args.row{w:World}{H:Nat}{xs:List V}(h:Args w H xs):RowAt w w.heap.size (some ⟨H,0,none⟩) xs :=
 RowAt.of_flat (fun j u hu=>by
  rw[WideShapes.add_plain,Nat.zero_add,Lib.cell_of_heap h]
  simpa using hu) h.lt
theorem Args.drewN{w:World}{H:Nat}{xs:List V}(h:Args w H xs)(n:Nat):Args (w.drewN n) H xs:=h
theorem args2{w:World}{H:Nat}{a b:V}(hH:w.heap.size=H):Args (w.alloc (.cells #[.int .i64 a.k,.int .i64 a.i,.string a.s,.int .i64 b.k,.int .i64 b.i,.string b.s] 26)) H [a,b]:=by subst hH;exact heap_alloc_new w _
structure Env(w:World):Prop where
 size:1≤w.heap.size
 max:∃ m,w.cell? ⟨0,0,none⟩=some (.int .i64 m)
theorem Env.later{w w':World}(h:Env w)(hb:Below w.heap.size w w'):Env w' :=
 ⟨Nat.le_trans h.size hb.size,by obtain⟨m,hm⟩:=h.max;exact⟨m,(hb.cell (p:=⟨0,0,none⟩) (by show 0 < _;have:=h.size;omega)).trans hm⟩⟩
theorem zero_box(w:World):HV w [(w.heap.size,zV)] (w.alloc (.cells #[.int .i64 0,.int .i64 0,.string ⟨#[]⟩] 26)):=(HV.nil w).push zV
theorem Args.cell{w:World}{H:Nat}{xs:List V}(h:Args w H xs)(j:Nat):w.cell? ⟨H,j,none⟩=(flat xs)[j]? := by
 rw[Lib.cell_of_heap h];simp
theorem index_le:∀ s sub:List UInt8,Lib.index s sub≤s.length
 | [],sub=>by unfold Lib.index;split <;> simp
 | b::l,sub=>by
  have:=index_le l sub;unfold Lib.index;simp only[List.length_cons]
  split
  ·omega
  ·split <;> omega
theorem index_in(s t:ByteArray) : -1≤Lib.index s.data.toList t.data.toList∧Lib.index s.data.toList t.data.toList≤s.size :=
 ⟨Lib.index_ge _ _,by have:=index_le s.data.toList t.data.toList;simpa using this⟩
theorem text_any(s:ByteArray)(w:World):Calls Tryz.prog 209 #[.string s] w fun e w'=>e = .returned (.agg #[.int .i64 3,.int .i64 0,.string s])∧Below w.heap.size w w':=by
 go_enter Tryz.func209,Tryz.ntmps209
 go_wp2
 exact bodyPost_ret (v:= .agg #[.int .i64 3,.int .i64 0,.string s]) (by simp[results,Tryz.results209,go_sem]) rfl ⟨rfl,(Below.refl _ w).alloc (Nat.le_refl _) _⟩
theorem length_do(a:V)(H:Nat)(w:World)(h:Args w H [a])(_hs:a.s.size≤140737488355328):Calls Tryz.prog 194 #[.slice (some ⟨H,0,none⟩) 1 1] w fun e w'=>e = .returned (.tuple #[.agg #[.int .i64 2,.int .i64 a.s.size,.string ⟨#[]⟩],.int .i64 0])∧Below w.heap.size w w':=by
 have hl:=h.lt;have HZ:=Hi (zero_box w);have c2:w.cell? ⟨H,2,none⟩=some (.string a.s):=h.cell 2;clear h;go_enter Tryz.func194,Tryz.ntmps194;go_wp2_with fail;refine(number_any _ _).mono ?_;rintro e w1 ⟨rfl,hb⟩;have H1:=Hi (HZ.out.call hb);obtain⟨g0,g1,g2⟩:=H1.out.box.cells;obtain⟨f0,f1,f2⟩:=H1.out.box.free;simp only[zV]at g0 g1 g2;clear c2;go_wp2_with fail;exact bodyPost_ret (v:= .tuple #[.agg #[.int .i64 2,.int .i64 a.s.size,.string ⟨#[]⟩],.int .i64 0]) (by simp[results,Tryz.results194,go_sem,g0,g1,g2]) rfl ⟨rfl,Below.set3 H1.out.below (by omega) _ _ _⟩
theorem substr_do(a:V)(m k:Int)(H:Nat)(w:World)(h:Args w H [a,nV m,nV k])(hs:a.s.size≤140737488355328)(hm:In64 m)(hk:0≤k)(hk':k≤9223372036854775807):Calls Tryz.prog 198 #[.slice (some ⟨H,0,none⟩) 3 3] w fun e w'=>e = .returned (.tuple #[.agg #[.int .i64 a.k,.int .i64 0,.string (pc a.s m k)],.int .i64 0])∧Below w.heap.size w w':=by
 have hl:=h.lt;have HZ:=Hi (zero_box w);have h1:=h.later ((Below.refl _ w).alloc (Nat.le_refl _) (.cells #[.int .i64 0,.int .i64 0,.string ⟨#[]⟩] 26));have HA:=Hi h1;have c7:w.cell? ⟨H,7,none⟩=some (.int .i64 k):=h.cell 7;have HP:=Hi (fun w=>piece_any a.s m k w hs hm hk hk')
 clear h h1 hs hm;generalize pc a.s m k=q at *;go_enter Tryz.func198,Tryz.ntmps198;go_wp2_with fail;generalize w.alloc (.cells #[.int .i64 0,.int .i64 0,.string ⟨#[]⟩] 26)=W1 at *;clear c7;have c0:W1.cell? ⟨H,0,none⟩=some (.int .i64 a.k):=HA.out.cell 0;have c2:W1.cell? ⟨H,2,none⟩=some (.string a.s):=HA.out.cell 2;have c4:W1.cell? ⟨H,4,none⟩=some (.int .i64 m):=HA.out.cell 4;have c7:W1.cell? ⟨H,7,none⟩=some (.int .i64 k):=HA.out.cell 7;obtain⟨g0,g1,g2⟩:=HZ.out.box.cells;obtain⟨f0,f1,f2⟩:=HZ.out.box.free;simp only[zV]at g0 g1 g2;refine wp_region_still_tail 18 (by kernel_rfl) (by kernel_rfl) ?_
 simp only[List.take_succ_cons,List.take_zero,List.drop_succ_cons,List.drop_zero]
 repeat still_step
 still_call (same_turn (HP.out _))
 repeat still_step
 refine wpStill_nil ?_
 change wpList _ _ _ _ _ W1.drew
 go_wp2_with fail;exact bodyPost_ret (v:= .tuple #[.agg #[.int .i64 a.k,.int .i64 0,.string q],.int .i64 0]) (by simp[results,Tryz.results198,go_sem,g0,g1,g2]) rfl ⟨rfl,Below.set3 HZ.out.below.drew (Nat.le_refl _) _ _ _⟩
theorem instr_do(a b:V)(H:Nat)(w:World)(h:Args w H [a,b])(hE:Env w)(hs:a.s.size < 4294967281):Calls Tryz.prog 199 #[.slice (some ⟨H,0,none⟩) 2 2] w fun e w'=>e = .returned (.tuple #[.agg #[.int .i64 2,.int .i64 (Lib.index a.s.data.toList b.s.data.toList+1),.string ⟨#[]⟩],.int .i64 0])∧Below w.heap.size w w':=by
 have hl:=h.lt;have HZ:=Hi (zero_box w);have h1:=h.later ((Below.refl _ w).alloc (Nat.le_refl _) (.cells #[.int .i64 0,.int .i64 0,.string ⟨#[]⟩] 26));have HA:=Hi h1;have HE:=Hi hE;have hr : -1≤Lib.index a.s.data.toList b.s.data.toList∧Lib.index a.s.data.toList b.s.data.toList≤a.s.size:=index_in a.s b.s;have HI:Hid (∀ w' m,w'.cell? ⟨0,0,none⟩=some (.int .i64 m)→Calls Tryz.prog 213 #[.string a.s,.string b.s] w' fun e w2=>e = .returned (.int .i64 (Lib.index a.s.data.toList b.s.data.toList))∧w2=w'):=fun w' m hm=>Tryz.strings_Index a.s b.s m w' hs hm
 clear h h1 hE;generalize Lib.index a.s.data.toList b.s.data.toList=x at *;have hx1:=hr.1;have hx2:=hr.2;clear hr;go_enter Tryz.func199,Tryz.ntmps199;go_wp2_with fail;generalize w.alloc (.cells #[.int .i64 0,.int .i64 0,.string ⟨#[]⟩] 26)=W1 at *;have c2:W1.cell? ⟨H,2,none⟩=some (.string a.s):=HA.out.cell 2;have c5:W1.cell? ⟨H,5,none⟩=some (.string b.s):=HA.out.cell 5
 go_still_tail 8,(by kernel_rfl)
 change wpList _ _ _ _ _ W1.drew
 obtain⟨m,hm⟩:=(HE.out.later (HZ.out.below.drew)).max;have HM:=Hi hm;clear hm
 go_wp2_with (go_at_call 213;refine(HI.out _ m HM.out).mono ?_;rintro e w' ⟨rfl,rfl⟩)
 refine(number_any _ _).mono ?_;rintro e w1 ⟨rfl,hb⟩;have H1:=Hi (HZ.out.drew.call hb);obtain⟨g0,g1,g2⟩:=H1.out.box.cells;obtain⟨f0,f1,f2⟩:=H1.out.box.free;simp only[zV]at g0 g1 g2;clear c2 c5;go_wp2_with fail;exact bodyPost_ret (v:= .tuple #[.agg #[.int .i64 2,.int .i64 (x+1),.string ⟨#[]⟩],.int .i64 0]) (by simp[results,Tryz.results199,go_sem,g0,g1,g2]) rfl ⟨rfl,Below.set3 H1.out.below (Nat.le_refl _) _ _ _⟩
end Go.Proofs.YtcicpjgnpcnnmaaGreatDoor.SC
namespace Go.Proofs.YtcicpjgnpcnnmaaGreatDoor.BV
end Go.Proofs.YtcicpjgnpcnnmaaGreatDoor.BV
namespace Go.Proofs.YtcicpjgnpcnnmaaGreatDoor.SC
open BV
open Go.RowKit
def FnBox(w:World)(b:Nat)(x:Fn):Prop:=w.heap[b]? = some (.cells #[.string x.nm,.int .i64 x.lo,.int .i64 x.hi,.int .u64 x.k0,.int .u64 x.k1,.int .u64 x.k2,.func (.func x.f) #[] #[]] 163 (0,0))
theorem FnBox.made(w:World)(x:Fn):FnBox (w.alloc (.cells #[.string x.nm,.int .i64 x.lo,.int .i64 x.hi,.int .u64 x.k0,.int .u64 x.k1,.int .u64 x.k2,.func (.func x.f) #[] #[]] 163)) w.heap.size x:=heap_alloc_new w _
theorem FnBox.later{w w':World}{b:Nat}{x:Fn}(h:FnBox w b x)(hb:Below w.heap.size w w'):FnBox w' b x:=(hb.block b (Array.getElem?_eq_some_iff.1 h).1).trans h
theorem FnBox.cells{w:World}{b:Nat}{x:Fn}(h:FnBox w b x):w.cell? ⟨b,0,none⟩=some (.string x.nm)∧w.cell? ⟨b,1,none⟩=some (.int .i64 x.lo)∧w.cell? ⟨b,2,none⟩=some (.int .i64 x.hi)∧w.cell? ⟨b,3,none⟩=some (.int .u64 x.k0)∧w.cell? ⟨b,4,none⟩=some (.int .u64 x.k1)∧w.cell? ⟨b,5,none⟩=some (.int .u64 x.k2)∧w.cell? ⟨b,6,none⟩=some (.func (.func x.f) #[] #[]):=by
 unfold FnBox at h;refine⟨?_,?_,?_,?_,?_,?_,?_⟩ <;> (rw[Lib.cell_of_heap h];rfl)
end Go.Proofs.YtcicpjgnpcnnmaaGreatDoor.SC
namespace Go.Proofs.YtcicpjgnpcnnmaaGreatDoor.BV
end Go.Proofs.YtcicpjgnpcnnmaaGreatDoor.BV
namespace Go.Proofs.YtcicpjgnpcnnmaaGreatDoor.SC
open BV
open Go.RowKit
def byteAt(s:ByteArray)(j:Nat):Nat:=(s.data.toList.getD j 0).toNat
def tog(f:Nat)(c:Nat):Nat:=if f≤c∧c < f+26 then c ^^^ 32 else c
theorem byte_lt(s:ByteArray)(j:Nat):byteAt s j < 256:=UInt8.toNat_lt _
theorem keep_cells{w:World}{g n k f:Nat}{B:Nat→Nat}(h:∀ j,j < n→w.cell? ⟨g,j,none⟩=some (.int .u8 (if j < k then tog f (B j)else B j:Nat)))(hk:tog f (B k)=B k):∀ j,j < n→w.cell? ⟨g,j,none⟩=some (.int .u8 (if j < k+1 then tog f (B j)else B j:Nat)):=by
 intro j hj;rw[h j hj]
 by_cases e:j=k
 ·subst e
  rw[if_neg (by omega),if_pos (by omega),hk]
 ·by_cases e2:j < k
  ·rw[if_pos e2,if_pos (by omega)]
  ·rw[if_neg e2,if_neg (by omega)]
theorem set_cells{w:World}{g n k f:Nat}{B:Nat→Nat}{x:Int}(h:∀ j,j < n→w.cell? ⟨g,j,none⟩=some (.int .u8 (if j < k then tog f (B j)else B j:Nat)))(hkn:k < n)(hk:x=(tog f (B k):Nat)):∀ j,j < n→(w.setCell ⟨g,k,none⟩ (.int .u8 x)).cell? ⟨g,j,none⟩=some (.int .u8 (if j < k+1 then tog f (B j)else B j:Nat)):=by
 intro j hj
 by_cases e:j=k
 ·subst e
  rw[if_pos (by omega),←hk]
  exact World.cell?_setCell_same _ _ _ (h j hj)
 ·rw[World.cell?_setCell_other _ _ _ _ (by simp <;> omega),h j hj]
  by_cases e2:j < k
  ·rw[if_pos e2,if_pos (by omega)]
  ·rw[if_neg e2,if_neg (by omega)]
theorem bits_xor:∀ b:Nat,b < 256→bits .xor .u8 (b:Int) 32=((b ^^^ 32:Nat):Int):=by decide +kernel
theorem bytes_below(w:World)(s:ByteArray):Below w.heap.size w (Lib.bytesWorld w 5 s):=⟨rfl,rfl,rfl,by rw[Lib.bytesWorld_size];omega,fun j hj=>Lib.bytesWorld_at_old w 5 s j hj⟩
theorem bytes_free(w:World)(s:ByteArray):∀ j,j < s.size→(Lib.bytesWorld w 5 s).frozen? ⟨w.heap.size,j,none⟩=false:=by
 intro j hj;unfold World.frozen?;rw[Lib.bytesWorld_at_new]
 simp[Lib.bytesCells]
 omega
def turnedL(f:Nat)(s:ByteArray):List Int:=(List.range s.size).map fun j=>((tog f (byteAt s j):Nat):Int)
def turnedB(f:Nat)(s:ByteArray):ByteArray:=(turnedL f s).foldl (fun r n=>r.push (UInt8.ofNat n.toNat)) ByteArray.empty
theorem back_str{w:World}{g:Nat}{s:ByteArray}{f n c:Nat}(hn:n=s.size)(h:∀ j,j < n→w.cell? ⟨g,j,none⟩=some (.int .u8 (if j < n then tog f (byteAt s j)else byteAt s j:Nat))):(convert 185 9 (.slice (some ⟨g,0,none⟩) n c)).run Tryz.prog w = .ok (.string (turnedB f s)) w:=by
 rw[run_convert_bytes_string w 185 9 5 _ _ _ Tryz.underlying185 Tryz.underlying5 Tryz.underlying9];unfold turnedB;refine run_bytesToString w _ n c (turnedL f s) ?_
 have hl:=run_loadCells (P:=Tryz.prog) (w:=w) ⟨g,0,none⟩ n (fun j=> .int .u8 (tog f (byteAt s j):Nat)) (fun j hj=>by
  rw[WideShapes.add_plain,Nat.zero_add,h j hj,if_pos hj])
 rw[hl];unfold turnedL;rw[←hn]
 simp[List.map_map]
theorem turned65(s:ByteArray)(w:World)(hs:s.size≤100000000):Calls Tryz.prog 210 #[.string s,.int .u8 65] w fun e w'=>e = .returned (.string (turnedB 65 s))∧Below w.heap.size w w':=by
 obtain⟨n,hn⟩:∃ n,n=s.size:=⟨_,rfl⟩;have hc:=Lib.run_convert_string_bytes w 9 185 5 s Tryz.underlying9 Tryz.underlying185 Tryz.underlying5;have hB0:=Hi (bytes_below w s);have hC0:=Hi (fun j hj=>Lib.bytesWorld_cell w 5 s j hj)
 have hF0:=Hi (bytes_free w s);have hZ0:=Hi (Lib.bytesWorld_size w 5 s);rw[←hn]at hc hs hC0 hF0;have HN:=Hi hn;clear hn;go_enter Tryz.func210,Tryz.ntmps210;go_wp2_with fail;clear hc;generalize Lib.bytesWorld w 5 s=W0 at *;generalize grownCap w n 0 5=cap at *
 go_loopw [12] (fun i wr=>∃ k:Nat,k≤n∧i = .int .i64 k∧w.heap.size < wr.heap.size∧Hid (Below w.heap.size w wr)∧Hid (∀ j,j < n→wr.cell? ⟨w.heap.size,j,none⟩=some (.int .u8 (if j < k then tog 65 (byteAt s j)else byteAt s j:Nat)))∧Hid (∀ j,j < n→wr.frozen? ⟨w.heap.size,j,none⟩=false)) (fun i _=>n - (intOf i).toNat)
 case atStart=>exact⟨0,Nat.zero_le _,rfl,by rw[hZ0.out];omega,hB0.out,fun j hj=>by rw[hC0.out j hj];rfl,hF0.out⟩
 case round =>
  obtain⟨k,hk,rfl,hz,HB,HC,HF⟩:=hrel
  by_cases hlt:k < n
  ·have c0:=HC.out k hlt
   rw[if_neg (by omega)]at c0
   have f0:=HF.out k hlt;have hb:=byte_lt s k;have HT:Hid (tog 65 (byteAt s k)=if 65≤byteAt s k∧byteAt s k < 65+26 then byteAt s k ^^^ 32 else byteAt s k):=rfl
   obtain⟨b,hbb⟩:∃ b,b=byteAt s k:=⟨_,rfl⟩;rw[←hbb]at c0 hb HT;have HBB:=Hi hbb;clear hbb
   by_cases h1:65≤b
   ·by_cases h2:b < 91
    ·go_wp2_with fail
     go_roundw
     case rel=>exact⟨k+1,by omega,by go_num,by simpa using hz,HB.out.setCell (Nat.le_refl _) _,set_cells HC.out hlt (by rw[←HBB.out,HT.out,if_pos ⟨h1,by omega⟩];exact bits_xor b hb),fun j hj=>by rw[World.frozen?_setCell];exact HF.out j hj⟩
     case measure=>simp[intOf];omega
    ·go_wp2_with fail
     go_roundw
     case rel=>exact⟨k+1,by omega,by go_num,hz,HB.out,keep_cells HC.out (by rw[←HBB.out,HT.out,if_neg (by omega)]),HF.out⟩
     case measure=>simp[intOf];omega
   ·go_wp2_with fail
    go_roundw
    case rel=>exact⟨k+1,by omega,by go_num,hz,HB.out,keep_cells HC.out (by rw[←HBB.out,HT.out,if_neg (by omega)]),HF.out⟩
    case measure=>simp[intOf];omega
  ·obtain rfl:k=n:=by omega
   have hback:=back_str (c:=cap) HN.out HC.out;go_wp2_with fail
   go_ret
   exact⟨rfl,HB.out⟩
theorem turned97(s:ByteArray)(w:World)(hs:s.size≤100000000):Calls Tryz.prog 210 #[.string s,.int .u8 97] w fun e w'=>e = .returned (.string (turnedB 97 s))∧Below w.heap.size w w':=by
 obtain⟨n,hn⟩:∃ n,n=s.size:=⟨_,rfl⟩;have hc:=Lib.run_convert_string_bytes w 9 185 5 s Tryz.underlying9 Tryz.underlying185 Tryz.underlying5;have hB0:=Hi (bytes_below w s);have hC0:=Hi (fun j hj=>Lib.bytesWorld_cell w 5 s j hj)
 have hF0:=Hi (bytes_free w s);have hZ0:=Hi (Lib.bytesWorld_size w 5 s);rw[←hn]at hc hs hC0 hF0;have HN:=Hi hn;clear hn;go_enter Tryz.func210,Tryz.ntmps210;go_wp2_with fail;clear hc;generalize Lib.bytesWorld w 5 s=W0 at *;generalize grownCap w n 0 5=cap at *
 go_loopw [12] (fun i wr=>∃ k:Nat,k≤n∧i = .int .i64 k∧w.heap.size < wr.heap.size∧Hid (Below w.heap.size w wr)∧Hid (∀ j,j < n→wr.cell? ⟨w.heap.size,j,none⟩=some (.int .u8 (if j < k then tog 97 (byteAt s j)else byteAt s j:Nat)))∧Hid (∀ j,j < n→wr.frozen? ⟨w.heap.size,j,none⟩=false)) (fun i _=>n - (intOf i).toNat)
 case atStart=>exact⟨0,Nat.zero_le _,rfl,by rw[hZ0.out];omega,hB0.out,fun j hj=>by rw[hC0.out j hj];rfl,hF0.out⟩
 case round =>
  obtain⟨k,hk,rfl,hz,HB,HC,HF⟩:=hrel
  by_cases hlt:k < n
  ·have c0:=HC.out k hlt
   rw[if_neg (by omega)]at c0
   have f0:=HF.out k hlt;have hb:=byte_lt s k;have HT:Hid (tog 97 (byteAt s k)=if 97≤byteAt s k∧byteAt s k < 97+26 then byteAt s k ^^^ 32 else byteAt s k):=rfl
   obtain⟨b,hbb⟩:∃ b,b=byteAt s k:=⟨_,rfl⟩;rw[←hbb]at c0 hb HT;have HBB:=Hi hbb;clear hbb
   by_cases h1:97≤b
   ·by_cases h2:b < 123
    ·go_wp2_with fail
     go_roundw
     case rel=>exact⟨k+1,by omega,by go_num,by simpa using hz,HB.out.setCell (Nat.le_refl _) _,set_cells HC.out hlt (by rw[←HBB.out,HT.out,if_pos ⟨h1,by omega⟩];exact bits_xor b hb),fun j hj=>by rw[World.frozen?_setCell];exact HF.out j hj⟩
     case measure=>simp[intOf];omega
    ·go_wp2_with fail
     go_roundw
     case rel=>exact⟨k+1,by omega,by go_num,hz,HB.out,keep_cells HC.out (by rw[←HBB.out,HT.out,if_neg (by omega)]),HF.out⟩
     case measure=>simp[intOf];omega
   ·go_wp2_with fail
    go_roundw
    case rel=>exact⟨k+1,by omega,by go_num,hz,HB.out,keep_cells HC.out (by rw[←HBB.out,HT.out,if_neg (by omega)]),HF.out⟩
    case measure=>simp[intOf];omega
  ·obtain rfl:k=n:=by omega
   have hback:=back_str (c:=cap) HN.out HC.out;go_wp2_with fail
   go_ret
   exact⟨rfl,HB.out⟩
end Go.Proofs.YtcicpjgnpcnnmaaGreatDoor.SC
namespace Go.Proofs.YtcicpjgnpcnnmaaGreatDoor.BV
end Go.Proofs.YtcicpjgnpcnnmaaGreatDoor.BV
namespace Go.Proofs.YtcicpjgnpcnnmaaGreatDoor.SC
open BV
open Go.RowKit
end Go.Proofs.YtcicpjgnpcnnmaaGreatDoor.SC
namespace Go.Proofs.YtcicpjgnpcnnmaaGreatDoor.BV
end Go.Proofs.YtcicpjgnpcnnmaaGreatDoor.BV
namespace Go.Proofs.YtcicpjgnpcnnmaaGreatDoor.SC
open BV
open Go.RowKit
end Go.Proofs.YtcicpjgnpcnnmaaGreatDoor.SC
namespace Go.Proofs.YtcicpjgnpcnnmaaGreatDoor.BV
end Go.Proofs.YtcicpjgnpcnnmaaGreatDoor.BV
namespace Go.Proofs.YtcicpjgnpcnnmaaGreatDoor.SC
open BV
open Go.RowKit
end Go.Proofs.YtcicpjgnpcnnmaaGreatDoor.SC
namespace Go.Proofs.YtcicpjgnpcnnmaaGreatDoor.BV
end Go.Proofs.YtcicpjgnpcnnmaaGreatDoor.BV
namespace Go.Proofs.YtcicpjgnpcnnmaaGreatDoor.SC
open BV
open Go.RowKit
end Go.Proofs.YtcicpjgnpcnnmaaGreatDoor.SC
