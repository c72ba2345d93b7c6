import Derived.Test.YtcicpjgnpcnnmaaGreatDoorQ01
import Derived.Deep.RegionHeld3
import Derived.Lib.ItoaLen
import Derived.Deep.RegionWith
import Derived.Lib.AppendIntMem
import Derived.WalkSmall
import Derived.Lib.LaidTab
set_option maxRecDepth 100000
set_option maxHeartbeats 2000000
namespace Go.Proofs.YtcicpjgnpcnnmaaGreatDoor.BV
open Go.RowKit
structure Env(w:World):Prop where
 size:6≤w.heap.size
 max:∃ m,w.cell? ⟨0,0,none⟩=some (.int .i64 m)
 tab : Lib.TabIs Tryz.prog w "internal/strconv.uint64pow10" .u64 Lib.pow10Tab
theorem Env.below{w w':World}{B:Nat}(h:Env w)(hb:Below B w w')(hB:6≤B):Env w' where
 size:=Nat.le_trans h.size hb.size
 max:=by
  obtain⟨m,hm⟩:=h.max;exact⟨m,(hb.cell (p:=⟨0,0,none⟩) (by show 0 < B;omega)).trans hm⟩
 tab:=var?_below hb (g:=1) (by kernel_rfl) (by omega) h.tab
theorem Env.drew{w:World}(h:Env w):Env w.drew:=⟨h.size,h.max,h.tab⟩
def repl(s:ByteArray):List UInt8:=dbl s.data.toList
theorem repl_any(s:ByteArray)(w:World)(hE:Env w)(hs:s.size≤1000000) :
  Calls Tryz.prog 215 #[.string s,.string ⟨#[39]⟩,.string ⟨#[39,39]⟩] w fun e w'=>e = .returned (.string ⟨(repl s).toArray⟩)∧Below w.heap.size w w':=by
 obtain⟨m,hm⟩:=hE.max
 have h:=Tryz.strings_ReplaceAll s ⟨#[39]⟩ ⟨#[39,39]⟩ m w (by omega) hm (by decide) (by
  have:Lib.countB s ⟨#[39]⟩≤s.size:=by
   show Lib.count s.data.toList [39]≤_
   rw[Lib.count_one];have:=List.count_le_length (a:=(39:UInt8)) (l:=s.data.toList)
   simpa using this
  show s.size+Lib.countB s ⟨#[39]⟩*2≤_
  omega)
 rw[show(⟨#[39]⟩:ByteArray).data.toList = [39] from rfl,show(⟨#[39,39]⟩:ByteArray).data.toList = [39,39] from rfl,repl_eq]at h
 exact h
theorem repl_len(s:ByteArray):(repl s).length≤2*s.size:=by
 have:=dbl_len s.data.toList
 simpa [repl]using this
theorem wtext(B b:Nat)(l:List UInt8)(s:ByteArray)(w:World)(h:W63 B b l w)(hs:s.size≤1000000)(hlen:l.length≤100000000000)(hBw:B≤w.heap.size)(hE:Env w)(hB:6≤B) :
  Calls Tryz.prog 206 #[.pointer (some ⟨b,0,none⟩),.string s] w fun e w'=>e = .returned (.tuple #[])∧W63 B b (l++([39]++repl s ++ [39])) w'∧Below B w w':=by
 have HE:=Hi hE;have HB:=Hi h;clear hE h;have hrl:=repl_len s;have hrs:(⟨(repl s).toArray⟩:ByteArray).size=(repl s).length:=by show(repl s).toArray.size=_;simp
 have HR:=Hi hrs;clear hrs;go_enter Tryz.func206,Tryz.ntmps206
 go_wp2_with (go_at_call 164;refine(wByte B b l 39 _ _ (by decide) HB.out (by omega) (by omega)).mono ?_;rintro e w1 ⟨rfl,h1,hb1,_⟩)
 have hz1:=hb1.size;have HE1:=Hi (HE.out.below hb1 hB).drew;have HI1:=Hi h1.drew;clear h1
 go_region_held3 (fun _=>True) (trivial) (first | (go_at_call 215;go_must (refine(repl_any s _ HE1.out hs).mono ?_);rintro e w2 ⟨rfl,hb2⟩;have hz2:=hb2.size) | (go_at_call 163;go_must (refine(wString B b _ _ _ (HI1.out.below hb2) (by rw[HR.out];simp;omega) (by simp at hz2;omega)).mono ?_);rintro e w3 ⟨rfl,h3,hb3,_⟩))
 have hz3:=hb3.size
 simp at hz2
 go_wp2_with (go_at_call 164;go_must (refine(wByte B b _ 39 _ _ (by decide) h3 (by simp;omega) (by omega)).mono ?_);rintro e w4 ⟨rfl,h4,hb4,_⟩)
 go_end0
 exact⟨rfl,by simpa using h4,((hb1.drew.trans (hb2.mono (by simp;omega))).trans hb3).trans hb4⟩
theorem wtruth(B b:Nat)(l:List UInt8)(q:Bool)(w:World)(h:W63 B b l w)(hlen:l.length≤100000000000)(hBw:B≤w.heap.size) :
  Calls Tryz.prog 204 #[.pointer (some ⟨b,0,none⟩),.bool q] w fun e w'=>e = .returned (.tuple #[])∧W63 B b (l++if q then [84,82,85,69]else [70,65,76,83,69]) w'∧Below B w w':=by
 cases q
 all_goals
  go_enter Tryz.func204,Tryz.ntmps204
  go_wp2_with (go_at_call 163;go_must (refine(wString B b l _ _ h (by first | (show l.length+4≤_;omega) | (show l.length+5≤_;omega)) (by omega)).mono ?_);rintro e w1 ⟨rfl,h1,hb1,_⟩)
  go_end0
  exact⟨rfl,h1,hb1⟩
def hexBA:ByteArray:=⟨#[48,49,50,51,52,53,54,55,56,57,97,98,99,100,101,102]⟩
theorem hexAll:∀ n:Fin 16,(hexBA[n.1]'n.2)=hexd n.1:=by decide
theorem hexAt{n:Nat}(h:n < (⟨#[48,49,50,51,52,53,54,55,56,57,97,98,99,100,101,102]⟩:ByteArray).size):((((⟨#[48,49,50,51,52,53,54,55,56,57,97,98,99,100,101,102]⟩:ByteArray)[n]'h).toNat:Int))=(hexd n).toNat:=by
 rw[show((⟨#[48,49,50,51,52,53,54,55,56,57,97,98,99,100,101,102]⟩:ByteArray)[n]'h)=(hexBA[n]'h) from rfl,hexAll ⟨n,h⟩]
theorem bitsAll:∀ n:Fin 256,bits BinOp.and IntKind.u8 (n.1:Int) 15=((n.1 % 16:Nat):Int):=by decide +kernel
theorem bits15(u:UInt8):bits BinOp.and IntKind.u8 (u.toNat:Int) 15=(u.toNat:Int) % 16:=by
 rw[bitsAll ⟨u.toNat,u.toNat_lt⟩];simp
theorem wblob(B b:Nat)(l:List UInt8)(s:ByteArray)(w:World)(h:W63 B b l w)(hs:s.size≤1000000)(hlen:l.length≤100000000000)(hBw:B≤w.heap.size) :
  Calls Tryz.prog 207 #[.pointer (some ⟨b,0,none⟩),.string s] w fun e w'=>e = .returned (.tuple #[])∧W63 B b (l++([120,39]++hexs s.data.toList ++ [39])) w'∧Below B w w':=by
 have HB:=Hi h;clear h;go_enter Tryz.func207,Tryz.ntmps207
 go_wp2_with (go_at_call 163;go_must (refine(wString B b l _ _ HB.out (by show l.length+2≤_;omega) (by omega)).mono ?_);rintro e w1 ⟨rfl,h1,hb1,_⟩)
 go_loopw [11] (fun i wr=>∃ k:Nat,k≤s.size∧i = .int .i64 k∧Below B w wr∧Hid (W63 B b (l ++ [120,39]++hexs (s.data.toList.take k)) wr)) (fun i _=>s.size - (intOf i).toNat)
 case atStart=>exact⟨0,Nat.zero_le _,rfl,hb1,by show W63 _ _ _ _;simpa [hexs]using h1⟩
 case round =>
  obtain⟨k,hk,rfl,hb,hw⟩:=hrel
  by_cases hlt:k < s.size
  ·have hx0:0≤(s[k].toNat:Int) / 16:=by omega
   have hx1:(s[k].toNat:Int) / 16 < 16:=by have:=s[k].toNat_lt;omega
   have hy0:0≤(s[k].toNat:Int) % 16:=by omega
   have hy1:(s[k].toNat:Int) % 16 < 16:=by omega
   have hbit:=bits15 s[k];have hlen2:(hexs (s.data.toList.take k)).length=2*k:=by rw[hexs_len,List.length_take];have:s.data.toList.length=s.size:=(by simp);omega
   have HL:=Hi hlen2;clear hlen2;have HX:Hid (hexs (s.data.toList.take (k+1))=hexs (s.data.toList.take k)++hex2 s[k]):=hexs_snoc _ _ (by simpa using hlt)
   have hzr:=hb.size;go_wp2_with fail
   go_still_tail 8,(by kernel_rfl)
   change wpList _ _ _ _ _ wr.drew
   go_wp2_with fail;refine(wByte B b _ (hexd (s[k].toNat / 16)) _ _ ?hc hw.out.drew (by simp[HL.out];omega) (by simp;omega)).mono ?_
   case hc=>exact hexAt _
   rintro e w2 ⟨rfl,h2,hb2,_⟩;have hz2:=hb2.size
   simp at hz2
   go_wp2_with fail
   go_still_tail 8,(by kernel_rfl)
   change wpList _ _ _ _ _ w2.drew
   go_wp2_with fail;refine(wByte B b _ (hexd (s[k].toNat % 16)) _ _ ?hc2 h2.drew (by simp[HL.out];omega) (by simp;omega)).mono ?_
   case hc2=>exact hexAt _
   rintro e w3 ⟨rfl,h3,hb3,_⟩;go_wp2_with fail
   go_roundw
   case rel=>exact⟨k+1,by omega,by go_num,(hb.drew.trans hb2).drew.trans hb3,by show W63 _ _ _ _;rw[HX.out];simpa [hex2]using h3⟩
   case measure=>simp[intOf];omega
  ·obtain rfl:k=s.size:=by omega
   have hzr:=hb.size;have HT:Hid (hexs (s.data.toList.take s.size)=hexs s.data.toList):=by show _=_;rw[List.take_of_length_le (by simp)]
   have HL:=hexs_len s.data.toList;have HL2:s.data.toList.length=s.size:=by simp
   have HW:W63 B b (l ++ [120,39]++hexs s.data.toList) wr:=by have:=hw.out;rwa [HT.out]at this
   have HW2:=Hi HW;clear HW hw;have HL3:(hexs s.data.toList).length≤2000000:=by omega
   clear HL HL2
   go_wp2_with (go_at_call 164;go_must (refine(wByte B b _ 39 _ _ (by decide) HW2.out (by simp;omega) (by omega)).mono ?_);rintro e w4 ⟨rfl,h4,hb4,_⟩)
   go_end0
   exact⟨rfl,by simpa using h4,hb.trans hb4⟩
theorem fmt_any(n:Int)(w:World)(hE:Env w)(h0 : -9223372036854775808≤n)(h1:n≤9223372036854775807) :
  Calls Tryz.prog 205 #[.int .i64 n,.int .i64 10] w fun e w'=>e = .returned (.string ⟨(Lib.itoa n).toArray⟩)∧Below w.heap.size w w' :=
 (Tryz.strconv_FormatInt_10 n h0 h1 w hE.tab).mono fun _ _ ⟨h,k,os,hw⟩=>⟨h,by rw[hw];exact Lib.below_grow _ _ (Nat.le_refl _) _ _⟩
def V.ok(v:V):Prop := -9223372036854775808≤v.i∧v.i≤9223372036854775807∧v.s.size≤1000000
theorem wvalue(B b:Nat)(l:List UInt8)(k i:Int)(s:ByteArray)(w:World)(h:W63 B b l w)(hm:mayB k i s=true)(hs:s.size≤1000000)(hi0 : -9223372036854775808≤i)(hi1:i≤9223372036854775807)(hlen:l.length≤100000000000)(hBw:B≤w.heap.size)(hE:Env w)(hB:6≤B) :
  Calls Tryz.prog 184 #[.pointer (some ⟨b,0,none⟩),.agg #[.int .i64 k,.int .i64 i,.string s]] w fun e w'=>e = .returned (.tuple #[])∧W63 B b (l++txt k i s) w'∧Below B w w':=by
 have hk:k=0∨k=1∨k=2∨k=3∨k=4:=by
  unfold mayB at hm
  by_cases h0:k=0
  ·exact Or.inl h0
  by_cases h1:k=1
  ·exact Or.inr (Or.inl h1)
  by_cases h2:k=2
  ·exact Or.inr (Or.inr (Or.inl h2))
  by_cases h3:k=3
  ·exact Or.inr (Or.inr (Or.inr (Or.inl h3)))
  by_cases h4:k=4
  ·exact Or.inr (Or.inr (Or.inr (Or.inr h4)))
  simp[h0,h1,h2,h3,h4]at hm
 have HE:=Hi hE;have HB:=Hi h;clear hE h hm;rcases hk with rfl | rfl | rfl | rfl | rfl
 ·go_enter Tryz.func184,Tryz.ntmps184
  go_wp2_with (go_at_call 163;go_must (refine(wString B b l _ _ (HB.out.below (Below.alloc (Below.refl _ _) (Nat.le_refl _) _)) (by show l.length+4≤_;omega) (by simp;omega)).mono ?_);rintro e w1 ⟨rfl,h1,hb1,_⟩)
  go_end0
  exact⟨rfl,h1,((Below.refl B w).alloc hBw _).trans hb1⟩
 ·go_enter Tryz.func184,Tryz.ntmps184
  go_wp2_with (go_at_call 204;go_must (refine(wtruth B b l _ _ (HB.out.below (Below.alloc (Below.refl _ _) (Nat.le_refl _) _)) (by omega) (by simp;omega)).mono ?_);rintro e w1 ⟨rfl,h1,hb1⟩)
  go_end0
  exact⟨rfl,by unfold txt;simpa using h1,((Below.refl B w).alloc hBw _).trans hb1⟩
 ·have hl21:=Lib.itoa_length_le i hi0 hi1
  have hsz:(⟨(Lib.itoa i).toArray⟩:ByteArray).size=(Lib.itoa i).length:=by show(Lib.itoa i).toArray.size=_;simp
  have HZ:=Hi hsz;clear hsz;go_enter Tryz.func184,Tryz.ntmps184;go_wp2_with fail;have HE1:=Hi (HE.out.below (Below.alloc (Below.refl _ _) hBw (.cells #[.int .i64 2,.int .i64 i,.string s] 26)) hB).drew;have HI1:=Hi (HB.out.below (Below.alloc (Below.refl _ _) (Nat.le_refl _) (.cells #[.int .i64 2,.int .i64 i,.string s] 26))).drew
  go_region_with (first | (go_at_call 205;refine(fmt_any i _ HE1.out hi0 hi1).mono ?_;rintro e w2 ⟨rfl,hb2⟩;have hz2:=hb2.size) | (go_at_call 163;refine(wString B b _ _ _ (HI1.out.below hb2) (by rw[HZ.out];omega) (by simp at hz2;omega)).mono ?_;rintro e w3 ⟨rfl,h3,hb3,_⟩))
  all_goals
   simp at hz2
   go_wp2_with fail
   go_end0
   exact⟨rfl,h3,(((Below.refl B w).alloc hBw _).drew.trans (hb2.mono (by simp;omega))).trans hb3⟩
 ·go_enter Tryz.func184,Tryz.ntmps184
  go_wp2_with (go_at_call 206;go_must (refine(wtext B b l s _ (HB.out.below (Below.alloc (Below.refl _ _) (Nat.le_refl _) _)) hs hlen (by simp;omega) (HE.out.below (Below.alloc (Below.refl _ _) hBw _) hB) hB).mono ?_);rintro e w1 ⟨rfl,h1,hb1⟩)
  go_end0
  exact⟨rfl,h1,((Below.refl B w).alloc hBw _).trans hb1⟩
 ·go_enter Tryz.func184,Tryz.ntmps184
  go_wp2_with (go_at_call 207;go_must (refine(wblob B b l s _ (HB.out.below (Below.alloc (Below.refl _ _) (Nat.le_refl _) _)) hs hlen (by simp;omega)).mono ?_);rintro e w1 ⟨rfl,h1,hb1⟩)
  go_end0
  exact⟨rfl,h1,((Below.refl B w).alloc hBw _).trans hb1⟩
theorem txt_len(k i:Int)(s:ByteArray)(hi0 : -9223372036854775808≤i)(hi1:i≤9223372036854775807):(txt k i s).length≤2*s.size+21:=by
 have h1:=Lib.itoa_length_le i hi0 hi1;have h2:=dbl_len s.data.toList;have h3:=hexs_len s.data.toList;have h4:s.data.toList.length=s.size:=by simp
 unfold txt
 split
 ·simp
 split
 ·split <;> simp
 split
 ·omega
 split <;> simp only[List.length_append,List.length_cons,List.length_nil] <;> omega
theorem cmp64_any(a b:Int)(w:World) :
  Calls Tryz.prog 126 #[.int .i64 a,.int .i64 b] w fun e w'=>e = .returned (.int .i64 (cmpI a b))∧w=w':=by
 go_enter Tryz.func126,Tryz.ntmps126
 go_wp2
 all_goals go_ret
 all_goals (go_light;refine⟨ret_int ?_,rfl⟩;unfold cmpI;repeat' split)
 all_goals omega
theorem cmpInt_any(a b:Int)(w:World) :
  Calls Tryz.prog 125 #[.int .i64 a,.int .i64 b] w fun e w'=>e = .returned (.int .i64 (cmpI a b))∧w=w':=by
 go_enter Tryz.func125,Tryz.ntmps125
 go_wp2
 all_goals go_ret
 all_goals (go_light;refine⟨ret_int ?_,rfl⟩;unfold cmpI;repeat' split)
 all_goals omega
theorem cmpV_any(k i k' i': Int)(s s':ByteArray)(w:World) :
  Calls Tryz.prog 72 #[.agg #[.int .i64 k,.int .i64 i,.string s],.agg #[.int .i64 k',.int .i64 i',.string s']] w fun e w'=>e = .returned (.int .i64 (cmpV k i s k' i' s'))∧Below w.heap.size w w':=by
 have h37:=cmpInt_any k k';have h38:=cmp64_any i i';have h39:∀ w,Calls Tryz.prog 127 #[.string s,.string s'] w fun e w'=>e = .returned (.int .i64 (cmpS s s'))∧w'=w:=fun w=>Tryz.strings_Compare s s' w
 unfold cmpV
 by_cases hc1:cmpI k k'=0
 ·rw[if_pos hc1]
  by_cases hc2:cmpI i i'=0
  ·rw[if_pos hc2]
   rw[hc1]at h37;rw[hc2]at h38;clear hc1 hc2;generalize cmpS s s'=c3 at *;go_enter Tryz.func72,Tryz.ntmps72
   go_wp2_with (first | (go_at_call 125;refine(h37 _).mono ?_;rintro e w' ⟨rfl,rfl⟩) | (go_at_call 126;refine(h38 _).mono ?_;rintro e w' ⟨rfl,rfl⟩) | (go_at_call 127;refine(h39 _).mono ?_;rintro e w' ⟨rfl,rfl⟩))
   go_ret
   exact⟨rfl,((Below.refl _ _).alloc (Nat.le_refl _) _).alloc (by simp) _⟩
  ·rw[if_neg hc2]
   rw[hc1]at h37;clear hc1;generalize cmpI i i'=c2 at *;have hb:(c2 != 0)=true:=by simpa using hc2
   clear hc2;go_enter Tryz.func72,Tryz.ntmps72
   go_wp2_with (first | (go_at_call 125;refine(h37 _).mono ?_;rintro e w' ⟨rfl,rfl⟩) | (go_at_call 126;refine(h38 _).mono ?_;rintro e w' ⟨rfl,rfl⟩) | (go_at_call 127;refine(h39 _).mono ?_;rintro e w' ⟨rfl,rfl⟩))
   go_ret
   exact⟨rfl,((Below.refl _ _).alloc (Nat.le_refl _) _).alloc (by simp) _⟩
 ·rw[if_neg hc1]
  generalize cmpI k k'=c1 at *;have hb:(c1 != 0)=true:=by simpa using hc1
  clear hc1;go_enter Tryz.func72,Tryz.ntmps72
  go_wp2_with (first | (go_at_call 125;refine(h37 _).mono ?_;rintro e w' ⟨rfl,rfl⟩) | (go_at_call 126;refine(h38 _).mono ?_;rintro e w' ⟨rfl,rfl⟩) | (go_at_call 127;refine(h39 _).mono ?_;rintro e w' ⟨rfl,rfl⟩))
  go_ret
  exact⟨rfl,((Below.refl _ _).alloc (Nat.le_refl _) _).alloc (by simp) _⟩
def rowN(xs:List V):Nat:=(xs.map fun v=>1+v.s.size).sum
def rowsN(rs:List R):Nat:=(rs.map fun r=>1+rowN r.xs).sum
theorem rowN_snoc{xs:List V}{k:Nat}(h:k < xs.length):rowN (xs.take (k+1))=rowN (xs.take k)+(1+xs[k].s.size):=by
 unfold rowN;rw[List.take_succ_eq_append_getElem h,List.map_append,List.sum_append];simp only[List.map_cons,List.map_nil,List.sum_cons,List.sum_nil,Nat.add_zero]
theorem rowsN_snoc{rs:List R}{k:Nat}(h:k < rs.length):rowsN (rs.take (k+1))=rowsN (rs.take k)+(1+rowN rs[k].xs):=by
 unfold rowsN;rw[List.take_succ_eq_append_getElem h,List.map_append,List.sum_append];simp only[List.map_cons,List.map_nil,List.sum_cons,List.sum_nil,Nat.add_zero]
theorem sum_take_le(l:List Nat)(k:Nat):(l.take k).sum≤l.sum:=by
 induction l generalizing k with
 | nil=>simp
 | cons a l ih=>cases k with
  | zero=>simp
  | succ k=>simp;exact ih k
theorem rowN_take(xs:List V)(k:Nat):rowN (xs.take k)≤rowN xs:=by unfold rowN;rw[List.map_take];exact sum_take_le _ _
theorem rowsN_take(rs:List R)(k:Nat):rowsN (rs.take k)≤rowsN rs:=by unfold rowsN;rw[List.map_take];exact sum_take_le _ _
def few(rs:List R)(M:Int):Bool:=decide ((rowsN rs:Int)≤M)
theorem few_no{rs:List R}{M:Int}{k j t t':Nat}(hk:k < rs.length)(hj:j < rs[k].xs.length)(h1:t=rowsN (rs.take k))(h2:t'=t+1+rowN (rs[k].xs.take j))(h3:M < (t':Int)+(1+rs[k].xs[j].s.size)):few rs M=false:=by
 have a:=rowsN_snoc hk;have b:=rowsN_take rs (k+1);have c:=rowN_snoc hj;have d:=rowN_take rs[k].xs (j+1);unfold few;simp only[decide_eq_false_iff_not]
 omega
def Small(rs:List R):Prop:=∀ r∈rs,r.xs.length≤140737488355328∧∀ v∈r.xs,v.s.size≤140737488355328
theorem few_any(rs:List R)(A:Option Addr)(c:Nat)(M:Int)(w:World)(hr:RowsAt w w.heap.size A rs)(hm:rs.length≤140737488355328)(hs:Small rs)(hM:0≤M)(hM':M≤1000000000) :
  Calls Tryz.prog 28 #[.slice A rs.length c,.int .i64 M] w fun e w'=>e = .returned (.bool (few rs M))∧Below w.heap.size w w':=by
 obtain⟨n,hn⟩:∃ n,n=rs.length:=⟨_,rfl⟩;have HN:=Hi hn;rw[←hn]at hm ⊢;clear hn;have HR:=Hi hr;have HS:=Hi hs;clear hr hs;go_enter Tryz.func28,Tryz.ntmps28;go_wp2_with fail
 go_loopw [12,5] (fun i s wr=>∃ k t:Nat,k≤n∧i = .int .i64 k∧s = .int .i64 t∧(t:Int)≤M+k∧Below w.heap.size w wr∧Hid (t=rowsN (rs.take k))) (fun i _ _=>n - (intOf i).toNat)
 case atStart=>exact⟨0,0,Nat.zero_le _,rfl,rfl,by omega,Below.refl _ _,rfl⟩
 case round =>
  obtain⟨k,t,hk,rfl,rfl,htM,hb,hsum⟩:=hrel
  by_cases hlt:k < n
  ·have hkx:k < rs.length:=by rw[←HN.out];exact hlt
   obtain⟨b,off,hA,hbl,hc⟩:=HR.out.1 (by omega)
   subst hA;have d1:=(hb.cell (p:=⟨b,_,none⟩) hbl).trans (hc k hkx);have hrow:=HR.out.2 rs[k] (List.getElem_mem hkx);have hsm:=HS.out rs[k] (List.getElem_mem hkx);have HK:Hid (∀ j t' (hj:j < rs[k].xs.length),t'=t+1+rowN (rs[k].xs.take j)→M < (t':Int)+(1+rs[k].xs[j].s.size)→few rs M=false):=fun j t' hj h2 h3=>few_no hkx hj hsum.out h2 h3
   have HE:Hid (t+1+rowN rs[k].xs=rowsN (rs.take (k+1))):=by
    have:=rowsN_snoc hkx;have:=hsum.out
    show _=_
    omega
   clear hc;unfold R.val at d1;generalize rs[k].xs=xs at *;generalize rs[k].A=A2 at *;generalize rs[k].c=c2 at *;obtain⟨l,hl⟩:∃ l,l=xs.length:=⟨_,rfl⟩;rw[←hl]at d1 hsm;have hsm1:=hsm.1;have HL:=Hi hl;have HW:=Hi hrow;have HZ:=Hi hsm.2;clear hl hrow hsm;have hbs:=hb.size;go_wp2_with fail;obtain⟨wo,rfl⟩:∃ wo:World,wo=wr:=⟨_,rfl⟩
   go_loopw [20,5] (fun i s wr=>∃ k' t':Nat,k'≤l∧i = .int .i64 k'∧s = .int .i64 t'∧(t':Int)≤M+k+1∧Below w.heap.size w wr∧Hid (t'=t+1+rowN (xs.take k'))) (fun i _ _=>l - (intOf i).toNat)
   case atStart=>exact⟨0,t+1,Nat.zero_le _,rfl,by go_num,by omega,hb,rfl⟩
   case round =>
    obtain⟨k',t',hk',rfl,rfl,htM',hb',hsum'⟩:=hrel
    by_cases hlt':k' < l
    ·have hkx':k' < xs.length:=by rw[←HL.out];exact hlt'
     obtain⟨b',off',hA',hbl',hc'⟩:=HW.out (by omega)
     subst hA';obtain⟨c1,c2,c3⟩:=hc' k' hkx';have e1:=(hb'.cell (p:=⟨b',_,none⟩) hbl').trans c1;have e2:=(hb'.cell (p:=⟨b',_,none⟩) hbl').trans c2;have e3:=(hb'.cell (p:=⟨b',_,none⟩) hbl').trans c3;have hz:=HZ.out xs[k'] (List.getElem_mem hkx');have HF:Hid (M < (t':Int)+(1+xs[k'].s.size)→few rs M=false):=fun h3=>HK.out k' t' hkx' hsum'.out h3
     have HG:Hid (t'+(1+xs[k'].s.size)=t+1+rowN (xs.take (k'+1))):=by
      have:=rowN_snoc hkx';have:=hsum'.out
      show _=_
      omega
     clear c1 c2 c3 hc';have hbs':=hb'.size;generalize xs[k'].k=vk at *;generalize xs[k'].i=vi at *;generalize xs[k'].s=vs at *
     by_cases hgt:M < (t':Int)+(1+vs.size)
     ·go_wp2_with fail
      go_ret
      exact⟨by rw[HF.out hgt];rfl,hb'.alloc (by omega) _⟩
     ·go_wp2_with fail
      go_roundw
      case rel=>exact⟨k'+1,t'+(1+vs.size),by omega,by go_num,by go_num,by omega,hb'.alloc (by omega) _,HG.out⟩
      case measure=>simp[intOf];omega
    ·obtain rfl:k'=l:=by omega
     go_wp2_with fail
     go_roundw
     case rel=>exact⟨k+1,t',by omega,by go_num,rfl,by omega,hb',by have:=HE.out;have h:=hsum'.out;rw[List.take_of_length_le (by rw[←HL.out];omega)]at h;show _=_;omega⟩
     case measure=>simp[intOf];omega
  ·obtain rfl:k=n:=by omega
   have HT:Hid ((t:Int)=rowsN rs):=by have:=hsum.out;rw[List.take_of_length_le (by rw[←HN.out];omega)]at this;show _=_;omega
   by_cases hle:(t:Int)≤M
   ·go_wp2_with fail
    go_ret
    exact⟨by rw[show few rs M=true by unfold few;rw[←HT.out];simpa using hle];rfl,hb⟩
   ·go_wp2_with fail
    go_ret
    exact⟨by rw[show few rs M=false by unfold few;rw[←HT.out];simpa using hle];rfl,hb⟩
theorem rcheckRow_any(xs:List V)(A:Option Addr)(c:Nat)(w:World)(hr:RowAt w w.heap.size A xs)(hm:xs.length≤9223372036854775807) :
  Calls Tryz.prog 29 #[.slice A xs.length c] w fun e w'=>e = .returned (.int .i64 (chkR xs))∧Below w.heap.size w w':=by
 obtain⟨n,hn⟩:∃ n,n=xs.length:=⟨_,rfl⟩;have HN:=Hi hn;rw[←hn]at hm ⊢;clear hn;have HR:=Hi hr;clear hr;go_enter Tryz.func29,Tryz.ntmps29;go_wp2_with fail
 go_loopw [8] (fun i wr=>∃ k:Nat,k≤n∧i = .int .i64 k∧Below w.heap.size w wr∧Hid (allOk (xs.take k)=true)) (fun i _=>n - (intOf i).toNat)
 case atStart=>exact⟨0,Nat.zero_le _,rfl,Below.refl _ _,rfl⟩
 case round =>
  obtain⟨k,hk,rfl,hb,hall⟩:=hrel
  by_cases hlt:k < n
  ·have hkx:k < xs.length:=by rw[←HN.out];exact hlt
   obtain⟨b,off,hA,hbl,hc⟩:=HR.out (by omega)
   subst hA;obtain⟨c1,c2,c3⟩:=hc k hkx;have d1:=(hb.cell (p:=⟨b,_,none⟩) hbl).trans c1;have d2:=(hb.cell (p:=⟨b,_,none⟩) hbl).trans c2;have d3:=(hb.cell (p:=⟨b,_,none⟩) hbl).trans c3;clear c1 c2 c3 hc;have hcall:=rcheck_any xs[k].k xs[k].i xs[k].s;obtain⟨r,hr⟩:∃ r,r=chkI xs[k].k xs[k].i xs[k].s:=⟨_,rfl⟩;rw[←hr]at hcall;have HX:Hid (xs[k].chk=r):=hr.symm;clear hr;generalize xs[k].k=vk at *;generalize xs[k].i=vi at *;generalize xs[k].s=vs at *
   by_cases h0:r=0
   ·subst h0
    go_wp2_with (go_at_call 55;refine(hcall _).mono ?_;rintro e w1 ⟨rfl,hb1⟩)
    go_roundw
    case rel=>exact⟨k+1,by omega,by go_num,(hb.alloc hb.size _).trans (hb1.mono (by have:=hb.size;simp;omega)),allOk_snoc hkx HX.out hall.out⟩
    case measure=>simp[intOf];omega
   ·have h1:(r != 0)=true:=by simpa using h0
    have H0:=Hi h0;clear h0
    go_wp2_with (go_at_call 55;refine(hcall _).mono ?_;rintro e w1 ⟨rfl,hb1⟩)
    go_ret
    exact⟨ret_int (chkR_bad hkx HX.out H0.out),(hb.alloc hb.size _).trans (hb1.mono (by have:=hb.size;simp;omega))⟩
  ·obtain rfl:k=n:=by omega
   go_wp2_with fail
   all_goals go_ret
   all_goals exact⟨ret_int (chkR_good HN.out hall.out (by omega)),hb⟩
theorem rcmp_ii(k i:Int)(s s':ByteArray)(w:World) :
  Calls Tryz.prog 73 #[.agg #[.int .i64 k,.int .i64 i,.string s],.agg #[.int .i64 k,.int .i64 i,.string s']] w fun e w'=>e = .returned (.int .i64 (cmpS s s'))∧Below w.heap.size w w':=by
 rcases cmpS_ok.range s s' with h | h | h
 ·have h1:Op.bytesLess s.toList s'.toList=true:=by rw[bytesLess_cmpS,h];rfl
  rw[h];clear h;go_enter Tryz.func73,Tryz.ntmps73;go_wp2_with fail
  go_ret
  exact⟨rfl,((Below.refl _ _).alloc (Nat.le_refl _) _).alloc (by simp) _⟩
 ·have h1:Op.bytesLess s.toList s'.toList=false:=by rw[bytesLess_cmpS,h];rfl
  have hs:=(cmpS_ok.zero _ _).1 h;subst hs
  have h15:∀ w,Calls Tryz.prog 69 #[.agg #[.int .i64 k,.int .i64 i,.string s],.agg #[.int .i64 k,.int .i64 i,.string s]] w fun e w'=>e = .returned (.bool true)∧Below w.heap.size w w':=by
   have:=rsame_any k i k i s s
   rwa [show sameB k i s k i s=true by simp[sameB]]at this
  rw[h];clear h;go_enter Tryz.func73,Tryz.ntmps73
  go_wp2_with (go_at_call 69;refine(h15 _).mono ?_;rintro e w' ⟨rfl,hb⟩)
  go_ret
  exact⟨rfl,(((Below.refl _ _).alloc (Nat.le_refl _) _).alloc (by simp) _).trans (hb.mono (by simp;omega))⟩
 ·have h1:Op.bytesLess s.toList s'.toList=false:=by rw[bytesLess_cmpS,h];rfl
  have h15:∀ w,Calls Tryz.prog 69 #[.agg #[.int .i64 k,.int .i64 i,.string s],.agg #[.int .i64 k,.int .i64 i,.string s']] w fun e w'=>e = .returned (.bool false)∧Below w.heap.size w w':=by
   have:=rsame_any k i k i s s'
   rwa [show sameB k i s k i s'=false by
    have:s.toList≠s'.toList:=by
     rw[Lib.toList_data,Lib.toList_data];intro e;have:s=s':=by cases s;cases s';simp only[ByteArray.mk.injEq];exact Array.toList_inj.1 e
     have:=(cmpS_ok.zero _ _).2 this
     omega
    simp[sameB,this]]at this
  rw[h];clear h;go_enter Tryz.func73,Tryz.ntmps73
  go_wp2_with (go_at_call 69;refine(h15 _).mono ?_;rintro e w' ⟨rfl,hb⟩)
  go_ret
  exact⟨rfl,(((Below.refl _ _).alloc (Nat.le_refl _) _).alloc (by simp) _).trans (hb.mono (by simp;omega))⟩
theorem rcmp_lt(k k' i i':Int)(s s':ByteArray)(w:World)(hk:k < k') :
  Calls Tryz.prog 73 #[.agg #[.int .i64 k,.int .i64 i,.string s],.agg #[.int .i64 k',.int .i64 i',.string s']] w fun e w'=>e = .returned (.int .i64 (-1))∧Below w.heap.size w w':=by
 go_enter Tryz.func73,Tryz.ntmps73;go_wp2_with fail
 go_ret
 exact⟨rfl,((Below.refl _ _).alloc (Nat.le_refl _) _).alloc (by simp) _⟩
theorem rcmp_ilt(k i i':Int)(s s':ByteArray)(w:World)(hk:i < i') :
  Calls Tryz.prog 73 #[.agg #[.int .i64 k,.int .i64 i,.string s],.agg #[.int .i64 k,.int .i64 i',.string s']] w fun e w'=>e = .returned (.int .i64 (-1))∧Below w.heap.size w w':=by
 go_enter Tryz.func73,Tryz.ntmps73;go_wp2_with fail
 go_ret
 exact⟨rfl,((Below.refl _ _).alloc (Nat.le_refl _) _).alloc (by simp) _⟩
theorem rcmp_gt(k k' i i':Int)(s s':ByteArray)(w:World)(hk:k' < k) :
  Calls Tryz.prog 73 #[.agg #[.int .i64 k,.int .i64 i,.string s],.agg #[.int .i64 k',.int .i64 i',.string s']] w fun e w'=>e = .returned (.int .i64 1)∧Below w.heap.size w w':=by
 have h15:∀ w,Calls Tryz.prog 69 #[.agg #[.int .i64 k,.int .i64 i,.string s],.agg #[.int .i64 k',.int .i64 i',.string s']] w fun e w'=>e = .returned (.bool false)∧Below w.heap.size w w':=by
  have:=rsame_any k i k' i' s s'
  rwa [show sameB k i s k' i' s'=false by simp[sameB];omega]at this
 have h0:(k == k')=false:=by simp;omega
 go_enter Tryz.func73,Tryz.ntmps73
 go_wp2_with (go_at_call 69;refine(h15 _).mono ?_;rintro e w' ⟨rfl,hb⟩)
 go_ret
 exact⟨rfl,(((Below.refl _ _).alloc (Nat.le_refl _) _).alloc (by simp) _).trans (hb.mono (by simp;omega))⟩
theorem rcmp_igt(k i i':Int)(s s':ByteArray)(w:World)(hk:i' < i) :
  Calls Tryz.prog 73 #[.agg #[.int .i64 k,.int .i64 i,.string s],.agg #[.int .i64 k,.int .i64 i',.string s']] w fun e w'=>e = .returned (.int .i64 1)∧Below w.heap.size w w':=by
 have h15:∀ w,Calls Tryz.prog 69 #[.agg #[.int .i64 k,.int .i64 i,.string s],.agg #[.int .i64 k,.int .i64 i',.string s']] w fun e w'=>e = .returned (.bool false)∧Below w.heap.size w w':=by
  have:=rsame_any k i k i' s s'
  rwa [show sameB k i s k i' s'=false by simp[sameB];omega]at this
 have h0:(i == i')=false:=by simp;omega
 go_enter Tryz.func73,Tryz.ntmps73
 go_wp2_with (go_at_call 69;refine(h15 _).mono ?_;rintro e w' ⟨rfl,hb⟩)
 go_ret
 exact⟨rfl,(((Below.refl _ _).alloc (Nat.le_refl _) _).alloc (by simp) _).trans (hb.mono (by simp;omega))⟩
theorem rcmpV_any(k i k' i':Int)(s s':ByteArray)(w:World) :
  Calls Tryz.prog 73 #[.agg #[.int .i64 k,.int .i64 i,.string s],.agg #[.int .i64 k',.int .i64 i',.string s']] w fun e w'=>e = .returned (.int .i64 (cmpV k i s k' i' s'))∧Below w.heap.size w w':=by
 unfold cmpV;rcases cmpI_ok.range k k' with h | h | h
 ·rw[h,if_neg (by decide)]
  exact rcmp_lt _ _ _ _ _ _ _ (by unfold cmpI at h;split at h <;> (try split at h) <;> omega)
 ·obtain rfl:=(cmpI_ok.zero _ _).1 h
  rw[if_pos h];rcases cmpI_ok.range i i' with h | h | h
  ·rw[h,if_neg (by decide)]
   exact rcmp_ilt _ _ _ _ _ _ (by unfold cmpI at h;split at h <;> (try split at h) <;> omega)
  ·obtain rfl:=(cmpI_ok.zero _ _).1 h
   rw[if_pos h];exact rcmp_ii _ _ _ _ _
  ·rw[h,if_neg (by decide)]
   exact rcmp_igt _ _ _ _ _ _ (by unfold cmpI at h;split at h <;> (try split at h) <;> omega)
 ·rw[h,if_neg (by decide)]
  exact rcmp_gt _ _ _ _ _ _ _ (by unfold cmpI at h;split at h <;> (try split at h) <;> omega)
theorem cmpR_step{xs ys:List V}{k:Nat}(h:k < xs.length)(h':k < ys.length):cmpR (xs.drop k) (ys.drop k)=if cmpVV xs[k] ys[k]=0 then cmpR (xs.drop (k+1)) (ys.drop (k+1))else cmpVV xs[k] ys[k]:=by
 rw[List.drop_eq_getElem_cons h,List.drop_eq_getElem_cons h']
 rfl
theorem cmpR_more{xs ys:List V}{k:Nat}(h:k < xs.length)(h':ys.length≤k):cmpR (xs.drop k) (ys.drop k)=1:=by
 rw[List.drop_eq_getElem_cons h,List.drop_eq_nil_of_le h']
 rfl
theorem cmpR_less{xs ys:List V}{k:Nat}(h:xs.length≤k)(h':k < ys.length):cmpR (xs.drop k) (ys.drop k) = -1:=by
 rw[List.drop_eq_getElem_cons h',List.drop_eq_nil_of_le h]
 rfl
theorem cmpR_end{xs ys:List V}{k:Nat}(h:xs.length≤k)(h':ys.length≤k):cmpR (xs.drop k) (ys.drop k)=0:=by
 rw[List.drop_eq_nil_of_le h',List.drop_eq_nil_of_le h]
 rfl
theorem rcmpR_any(xs ys:List V)(A A':Option Addr)(c c':Nat)(w:World)(hr:RowAt w w.heap.size A xs)(hr':RowAt w w.heap.size A' ys)(hm:xs.length≤9223372036854775807) :
  Calls Tryz.prog 78 #[.slice A xs.length c,.slice A' ys.length c'] w fun e w'=>e = .returned (.int .i64 (cmpR xs ys))∧Below w.heap.size w w':=by
 obtain⟨n,hn⟩:∃ n,n=xs.length:=⟨_,rfl⟩;obtain⟨m,hn'⟩:∃ m,m=ys.length:=⟨_,rfl⟩;have HN:=Hi hn;have HM:=Hi hn';rw[←hn]at hm ⊢;rw[←hn'];clear hn hn';have HR:=Hi hr;have HR':=Hi hr';clear hr hr';go_enter Tryz.func78,Tryz.ntmps78;go_wp2_with fail
 go_loopw [9] (fun i wr=>∃ k:Nat,k≤n∧i = .int .i64 k∧Below w.heap.size w wr∧k≤m∧Hid (cmpR xs ys=cmpR (xs.drop k) (ys.drop k))) (fun i _=>n - (intOf i).toNat)
 case atStart=>exact⟨0,Nat.zero_le _,rfl,Below.refl _ _,Nat.zero_le _,rfl⟩
 case round =>
  obtain⟨k,hk,rfl,hb,hkm,heq⟩:=hrel
  by_cases hlt:k < n
  ·have hkx:k < xs.length:=by rw[←HN.out];exact hlt
   obtain⟨b,off,hA,hbl,hc⟩:=HR.out (by omega)
   subst hA;obtain⟨c1,c2,c3⟩:=hc k hkx;have d1:=(hb.cell (p:=⟨b,_,none⟩) hbl).trans c1;have d2:=(hb.cell (p:=⟨b,_,none⟩) hbl).trans c2;have d3:=(hb.cell (p:=⟨b,_,none⟩) hbl).trans c3;clear c1 c2 c3 hc;have hbs:=hb.size
   by_cases hlt':k < m
   ·have hky:k < ys.length:=by rw[←HM.out];exact hlt'
    obtain⟨b',off',hA',hbl',hc'⟩:=HR'.out (by omega)
    subst hA';obtain⟨c1,c2,c3⟩:=hc' k hky;have e1:=(hb.cell (p:=⟨b',_,none⟩) hbl').trans c1;have e2:=(hb.cell (p:=⟨b',_,none⟩) hbl').trans c2;have e3:=(hb.cell (p:=⟨b',_,none⟩) hbl').trans c3;clear c1 c2 c3 hc';have hcall:=rcmpV_any xs[k].k xs[k].i ys[k].k ys[k].i xs[k].s ys[k].s;have hst:cmpR (xs.drop k) (ys.drop k)=_:=cmpR_step hkx hky;rw[show cmpVV xs[k] ys[k]=cmpV xs[k].k xs[k].i xs[k].s ys[k].k ys[k].i ys[k].s from rfl]at hst
    obtain⟨r,hr⟩:∃ r,r=cmpV xs[k].k xs[k].i xs[k].s ys[k].k ys[k].i ys[k].s:=⟨_,rfl⟩;rw[←hr]at hcall hst;clear hr;have HS:=Hi hst;clear hst;generalize xs[k].k=vk at *;generalize xs[k].i=vi at *;generalize xs[k].s=vs at *;generalize ys[k].k=uk at *;generalize ys[k].i=ui at *;generalize ys[k].s=us at *
    by_cases h0:r=0
    ·subst h0
     go_wp2_with fail
     go_still_tail 8,(by kernel_rfl)
     change wpList _ _ _ _ _ wr.drew
     go_wp2_with (go_at_call 73;refine(hcall _).mono ?_;rintro e w1 ⟨rfl,hb1⟩)
     go_roundw
     case rel=>exact⟨k+1,by omega,by go_num,hb.drew.trans (hb1.mono (by simp;omega)),by omega,heq.out.trans (HS.out.trans (by simp))⟩
     case measure=>simp[intOf];omega
    ·have h1:(r != 0)=true:=by simpa using h0
     have H0:=Hi h0;clear h0;go_wp2_with fail
     go_still_tail 8,(by kernel_rfl)
     change wpList _ _ _ _ _ wr.drew
     go_wp2_with (go_at_call 73;refine(hcall _).mono ?_;rintro e w1 ⟨rfl,hb1⟩)
     go_ret
     exact⟨ret_int (heq.out.trans (HS.out.trans (if_neg H0.out))).symm,hb.drew.trans (hb1.mono (by simp;omega))⟩
   ·go_wp2_with fail
    go_ret
    exact⟨ret_int (heq.out.trans (cmpR_more hkx (by rw[←HM.out];omega))).symm,hb⟩
  ·obtain rfl:k=n:=by omega
   by_cases hlt':k < m
   ·go_wp2_with fail
    go_ret
    exact⟨ret_int (heq.out.trans (cmpR_less (by rw[←HN.out];omega) (by rw[←HM.out];omega))).symm,hb⟩
   ·go_wp2_with fail
    go_ret
    exact⟨ret_int (heq.out.trans (cmpR_end (by rw[←HN.out];omega) (by rw[←HM.out];omega))).symm,hb⟩
theorem txt_ne(k i:Int)(s:ByteArray):txt k i s≠[]:=by
 unfold txt
 split
 ·simp
 split
 ·split <;> simp
 split
 ·unfold Lib.itoa
  have:∀ u,Lib.decDigits u≠[]:=fun u=>by rw[Lib.decDigits];split <;> simp
  split
  ·simp
  ·exact this _
 split <;> simp
theorem box3{w w1:World}{a b c:Value}(hb:Below (w.alloc (.cells #[a,b,c] 26)).heap.size (w.alloc (.cells #[a,b,c] 26)) w1) :
  (∀ o,(w1.alloc o).cell? ⟨w.heap.size,0,none⟩=some a∧(w1.alloc o).cell? ⟨w.heap.size,1,none⟩=some b∧(w1.alloc o).cell? ⟨w.heap.size,2,none⟩=some c) ∧
  (w1.cell? ⟨w.heap.size,0,none⟩=some a∧w1.cell? ⟨w.heap.size,1,none⟩=some b∧w1.cell? ⟨w.heap.size,2,none⟩=some c)∧Below w.heap.size w w1∧w.heap.size < w1.heap.size:=by
 have hz:w.heap.size < w1.heap.size:=by have:=hb.size;simp at this;omega
 have hn:(w.alloc (.cells #[a,b,c] 26)).heap[w.heap.size]? = some (.cells #[a,b,c] 26 (0,0)):=heap_alloc_new w _;have h1:=(hb.block w.heap.size (by simp)).trans hn
 refine⟨fun o => ?_,?_,((Below.refl _ w).alloc (Nat.le_refl _) _).trans (hb.mono (by simp)),hz⟩
 ·have h2:=(Below.heap_alloc w1 o _ hz).trans h1
  exact⟨by rw[Lib.cell_of_heap h2];rfl,by rw[Lib.cell_of_heap h2];rfl,by rw[Lib.cell_of_heap h2];rfl⟩
 ·exact⟨by rw[Lib.cell_of_heap h1];rfl,by rw[Lib.cell_of_heap h1];rfl,by rw[Lib.cell_of_heap h1];rfl⟩
theorem text_ok(k i:Int)(s:ByteArray)(w:World)(hm:mayB k i s=true)(hs:s.size≤1000000)(hi0 : -9223372036854775808≤i)(hi1:i≤9223372036854775807)(hE:Env w) :
  Calls Tryz.prog 162 #[.agg #[.int .i64 k,.int .i64 i,.string s]] w fun e w'=>e = .returned (.tuple #[.string ⟨(txt k i s).toArray⟩,.int .i64 0])∧Below w.heap.size w w':=by
 have hc:=check_any k i s;rw[show chkI k i s=0 by unfold chkI;rw[hm];rfl]at hc
 have HM:=Hi hm;have HE:=Hi hE;have hsz:=hE.size;have HN:=Hi (txt_ne k i s);clear hm hE;go_enter Tryz.func162,Tryz.ntmps162
 go_wp2_with (go_at_call 177;go_must (refine(hc _).mono ?_);rintro e w1 ⟨rfl,hb1⟩;obtain⟨hb3,-,hb,hz⟩:=box3 hb1;have e0:=fun o=>(hb3 o).1;have e1:=fun o=>(hb3 o).2.1;have e2:=fun o=>(hb3 o).2.2;clear hb3 hb1)
 have hw:W63 w1.heap.size w1.heap.size [] (w1.alloc (.cells #[.pointer none,.slice none 0 0] 206)):=Lib.fresh_isBuilder 206 5 w1;have HE1:=HE.out.below (hb.alloc (by omega) (.cells #[.pointer none,.slice none 0 0] 206)) hsz
 have HW:=Hi hw;have HE2:=Hi HE1;clear hw HE1
 go_wp2_with (go_at_call 184;go_must (refine(wvalue w1.heap.size w1.heap.size _ _ _ _ _ HW.out HM.out hs hi0 hi1 (by simp) (by simp) HE2.out (by omega)).mono ?_);rintro e w2 ⟨rfl,h2,hb2⟩)
 have hz2:=hb2.size
 go_wp2_with (go_at_call 165;go_must (refine(wText w1.heap.size w1.heap.size _ _ h2 (by simpa using HN.out)).mono ?_);rintro e w3 ⟨rfl,hb3⟩)
 go_ret2
 exact⟨rfl,((hb.alloc (by omega) _).trans (hb2.mono (by omega))).trans (hb3.mono (by omega))⟩
theorem text_bad(k i:Int)(s:ByteArray)(w:World)(hm:mayB k i s=false) :
  Calls Tryz.prog 162 #[.agg #[.int .i64 k,.int .i64 i,.string s]] w fun e w'=>e = .returned (.tuple #[.string ⟨#[]⟩,.int .i64 1])∧Below w.heap.size w w':=by
 have hc:=check_any k i s;rw[show chkI k i s=1 by unfold chkI;rw[hm];rfl]at hc
 clear hm;go_enter Tryz.func162,Tryz.ntmps162
 go_wp2_with (go_at_call 177;go_must (refine(hc _).mono ?_);rintro e w1 ⟨rfl,hb1⟩)
 go_ret2
 exact⟨rfl,((Below.refl _ w).alloc (Nat.le_refl _) _).trans (hb1.mono (by simp))⟩
end Go.Proofs.YtcicpjgnpcnnmaaGreatDoor.BV
namespace Go.Proofs.YtcicpjgnpcnnmaaGreatDoor.BT
open Go.RowKit
theorem infoB:(Tryz.prog.info? 187).map (fun j=>j.size)=some 2:=by kernel_rfl
theorem liesB:liesAt Tryz.prog Tryz.prog.depth 187 (2 / Tryz.prog.cellsOf 187) 0 187 1=true:=by kernel_rfl
theorem info5:(Tryz.prog.info? 5).map (fun i=>(i.zero,i.size,i.bytes))=some (some (.int .u8 0),1,1):=by kernel_rfl
theorem copyCheck_used(b:Nat)(w:World)(h0:w.cell? ⟨b,0,none⟩=some (.pointer (some ⟨b,0,none⟩))) :
  Calls Tryz.prog 185 #[.pointer (some ⟨b,0,none⟩)] w fun e w'=>e = .returned (.tuple #[])∧w'=w:=by
 obtain⟨j,hj,_⟩:=Option.map_eq_some_iff.1 infoB;go_enter Tryz.func185,Tryz.ntmps185
 go_wp2
 rw[Lib.run_neq_ptr_same w _ Tryz.underlying184 hj]
 go_wp2
 go_end0
 exact⟨rfl,rfl⟩
theorem copyCheck_fresh(b:Nat)(w:World)(h0:w.cell? ⟨b,0,none⟩=some (.pointer none))(hsh:w.shape? b=some (187,2))(hfz:w.frozen? ⟨b,0,none⟩=false) :
  Calls Tryz.prog 185 #[.pointer (some ⟨b,0,none⟩)] w fun e w'=>e = .returned (.tuple #[])∧w'=w.setCell ⟨b,0,none⟩ (.pointer (some ⟨b,0,none⟩)):=by
 obtain⟨j,hj,hjs⟩:=Option.map_eq_some_iff.1 infoB;go_enter Tryz.func185,Tryz.ntmps185
 go_wp2
 rw[Lib.run_to_unsafe w ⟨b,0,none⟩ Tryz.underlying184 Tryz.underlying221 hj (by rw[hjs];decide) hsh (Nat.zero_lt_succ 1)]
 simp only[Result.andThen];rw[Oper.upon_value]
 go_wp2
 rw[run_callFunc_extern Tryz.func208 (by kernel_rfl) (by kernel_rfl) (by kernel_rfl) (e:=Extern.AbiNoEscape.same) (by kernel_rfl)]
 rw[Lib.run_noEscape];simp only[Result.andThen];rw[Oper.upon_value]
 go_wp2
 rw[Lib.run_from_unsafe w ⟨b,0,none⟩ Tryz.underlying221 Tryz.underlying184 hj hsh liesB];simp only[Result.andThen];rw[Oper.upon_value]
 go_wp2
 go_end0
 exact⟨rfl,rfl⟩
def Keep(w w':World):Prop:=∀ (k:Nat)(cs:Array Value)(t:TypeId)(f:Nat×Nat),t≠187→t≠5→w.heap[k]? = some (.cells cs t f)→w'.heap[k]? = some (.cells cs t f)
theorem Keep.refl(w:World):Keep w w:=fun _ _ _ _ _ _ h=>h
theorem Keep.trans{a b c:World}(h:Keep a b)(h':Keep b c):Keep a c:=fun k cs t f h1 h2 h3=>h' k cs t f h1 h2 (h k cs t f h1 h2 h3)
theorem Keep.setCell{w:World}{b o:Nat}{c:Array Value}{f:Nat×Nat}(hb:w.heap[b]? = some (.cells c 187 f))(u:Value):Keep w (w.setCell ⟨b,o,none⟩ u):=fun k cs t f' h1 _ h3=>by
 rw[Below.heap_setCell w _ _ k ?_]
 ·exact h3
 ·intro e
  have e':k=b:=e;subst e';rw[hb]at h3
  simp at h3
  exact h1 h3.2.1.symm
theorem Keep.grown{w w':World}{v:Value}{n:Nat}{B:Nat}{xs:List Value}(hg:w.grownBy w' v.ownBlock)(hown:w.ownsRow B 5 1 v n xs):Keep w w':=fun k cs t f _ h2 h3=>by
 have hlt:k < w.heap.size:=by
  rcases Nat.lt_or_ge k w.heap.size with h' | h'
  ·exact h'
  ·simp[Array.getElem?_eq_none h']at h3
 rw[hg.block k hlt ?_]
 ·exact h3
 ·intro e
  rcases hown.2 with ⟨hv,_⟩ | ⟨g,cap,cur,hv,_,hgg,_⟩
  ·rw[hv]at e;simp[Value.ownBlock]at e
  ·rw[hv]at e
   simp[Value.ownBlock]at e
   subst e;rw[hgg]at h3
   simp at h3
   exact h2 h3.2.1.symm
theorem Keep.alloc(w:World)(o:Obj):Keep w (w.alloc o):=fun k cs t f _ _ h3=>by
 have hlt:k < w.heap.size:=by
  rcases Nat.lt_or_ge k w.heap.size with h' | h'
  ·exact h'
  ·simp[Array.getElem?_eq_none h']at h3
 rw[Below.heap_alloc w o k hlt];exact h3
theorem copyCheck_any(B b:Nat)(bs:List Value)(w:World)(h:Lib.IsBuilder 187 5 B b bs w) :
  Calls Tryz.prog 185 #[.pointer (some ⟨b,0,none⟩)] w fun e w'=>e = .returned (.tuple #[])∧(Lib.BuilderAt 187 5 B b (.pointer (some ⟨b,0,none⟩)) bs w'∧Below B w w'∧Keep w w'):=by
 rcases h with h | h
 ·refine(copyCheck_fresh b w h.cell0 h.shape h.frozen0).mono ?_
  rintro e w' ⟨rfl,rfl⟩;obtain⟨_,v,hbk,_⟩:=id h;exact⟨rfl,h.used _,(Below.refl B w).setCell (p:=⟨b,0,none⟩) h.1 _,Keep.setCell hbk _⟩
 ·refine(copyCheck_used b w h.cell0).mono ?_
  rintro e w' ⟨rfl,rfl⟩;exact⟨rfl,h,Below.refl B _,Keep.refl _⟩
theorem writeByte_any(B b:Nat)(bs:List Value)(c:Int)(w:World)(h:Lib.IsBuilder 187 5 B b bs w)(hlen:bs.length+1≤140737488355328)(hBw:B≤w.heap.size) :
  Calls Tryz.prog 164 #[.pointer (some ⟨b,0,none⟩),.int .u8 c] w fun e w'=>e = .returned .nilIface∧(Lib.IsBuilder 187 5 B b (bs ++ [.int .u8 c]) w'∧Below B w w'∧Keep w w'):=by
 obtain⟨i0,hi,hz0,hz1,hz2⟩:=info_parts info5;go_enter Tryz.func164,Tryz.ntmps164
 go_wp2_with (go_at_call 185;refine(copyCheck_any B b bs _ h).mono ?_)
 rintro e w1 ⟨rfl,h1,hb1,hk1⟩;obtain⟨hB,v,hbk,hown,hne⟩:=h1;have c0:w1.cell? ⟨b,0,none⟩=some (.pointer (some ⟨b,0,none⟩)):=by rw[Lib.cell_of_heap hbk];rfl
 have c1:w1.cell? ⟨b,1,none⟩=some v:=by rw[Lib.cell_of_heap hbk];rfl
 go_wp2_with (at_builtin;refine wpList_append_own _ rfl _ _ 185 rfl B 5 i0 (.int .u8 0) 1 1 Tryz.underlying185 hi hz0 hz1 hz2 rfl (by decide) _ _ _ rfl (hown.alloc _) ⟨w1.heap.size,0,none⟩ 1 1 [.int .u8 c] rfl rfl ?c1 ?c2 ?c3 ?c4 ?c5 ?_)
 case c1 =>
  intro j u hj
  match j,hj with
  | 0,hj=>simp at hj;subst hj;simp[Addr.add]
 case c2=>intro u hu;simp at hu;subst hu;rfl
 case c3=>unfold maxLen;omega
 case c4=>omega
 case c5=>have:=hb1.size;simp;omega
 intro v' w2 hown' hgrow _
 have hlt:b < w1.heap.size:=by
  rcases Nat.lt_or_ge b w1.heap.size with h' | h'
  ·exact h'
  ·simp[Array.getElem?_eq_none h']at hbk
 have hb2:w2.heap[b]? = some (.cells #[.pointer (some ⟨b,0,none⟩),v] 187 (0,0)):=by
  rw[hgrow.block b (by simp;omega) (fun e=>hne e.symm),Lib.alloc_old w1 _ b hlt]
  exact hbk
 have d0:w2.cell? ⟨b,0,none⟩=some (.pointer (some ⟨b,0,none⟩)):=by rw[Lib.cell_of_heap hb2];rfl
 have d1:w2.cell? ⟨b,1,none⟩=some v:=by rw[Lib.cell_of_heap hb2];rfl
 have f1:w2.frozen? ⟨b,1,none⟩=false:=Lib.frozen_of_heap hb2 1
 obtain⟨g,cap,rfl⟩:∃ g cap,v' = .slice (some ⟨g,0,none⟩) (bs.length+1) cap:=by
  rcases hown'.2 with ⟨_,h0⟩ | ⟨g,cap,cur,hv,_⟩
  ·omega
  ·exact⟨g,cap,hv⟩
 go_wp2
 go_ret
 refine⟨rfl,Or.inr ?_,?_,?_⟩
 ·exact Lib.BuilderAt.put (T:=187) (e:=5) hB hb2 (bs':=bs ++ [.int .u8 c]) (by simpa using hown') (by decide)
 ·exact((hb1.alloc (by have:=hb1.size;omega) _).grown hgrow (by have:=hb1.size;simp;omega) (fun k hk=>(hown.lt k hk).1)).setCell (p:=⟨b,1,none⟩) hB _
 ·exact((hk1.trans (Keep.alloc _ _)).trans (Keep.grown hgrow (hown.alloc _))).trans (Keep.setCell hb2 _)
theorem writeString_any(B b:Nat)(bs:List Value)(s:ByteArray)(w:World)(h:Lib.IsBuilder 187 5 B b bs w)(hlen:bs.length+s.size≤140737488355328)(hBw:B≤w.heap.size) :
  Calls Tryz.prog 163 #[.pointer (some ⟨b,0,none⟩),.string s] w fun e w'=>e = .returned (.tuple #[.int .i64 s.size,.nilIface])∧(Lib.IsBuilder 187 5 B b (bs++Lib.strCells s) w'∧Below B w w'∧Keep w w'):=by
 obtain⟨i0,hi,hz0,hz1,hz2⟩:=info_parts info5;go_enter Tryz.func163,Tryz.ntmps163
 go_wp2_with (go_at_call 185;refine(copyCheck_any B b bs _ h).mono ?_)
 rintro e w1 ⟨rfl,h1,hb1,hk1⟩;obtain⟨hB,v,hbk,hown,hne⟩:=h1;have c0:w1.cell? ⟨b,0,none⟩=some (.pointer (some ⟨b,0,none⟩)):=by rw[Lib.cell_of_heap hbk];rfl
 have c1:w1.cell? ⟨b,1,none⟩=some v:=by rw[Lib.cell_of_heap hbk];rfl
 go_wp2_with (at_builtin;refine Lib.wpList_append_own_string _ rfl _ _ 185 9 rfl B 5 i0 Tryz.underlying185 Tryz.underlying9 hi hz0 hz1 hz2 _ _ _ rfl hown s rfl ?c3 ?c4 ?c5 ?_)
 case c3=>unfold maxLen;omega
 case c4=>omega
 case c5=>have:=hb1.size;omega
 intro v' w2 hown' hgrow _
 have hlt:b < w1.heap.size:=by
  rcases Nat.lt_or_ge b w1.heap.size with h' | h'
  ·exact h'
  ·simp[Array.getElem?_eq_none h']at hbk
 have hb2:w2.heap[b]? = some (.cells #[.pointer (some ⟨b,0,none⟩),v] 187 (0,0)):=by
  rw[hgrow.block b hlt (fun e=>hne e.symm)]
  exact hbk
 have d0:w2.cell? ⟨b,0,none⟩=some (.pointer (some ⟨b,0,none⟩)):=by rw[Lib.cell_of_heap hb2];rfl
 have d1:w2.cell? ⟨b,1,none⟩=some v:=by rw[Lib.cell_of_heap hb2];rfl
 have f1:w2.frozen? ⟨b,1,none⟩=false:=Lib.frozen_of_heap hb2 1
 obtain⟨ao,n',cap,rfl⟩:∃ ao n' cap,v' = .slice ao n' cap:=by
  rcases hown'.2 with ⟨hv,_⟩ | ⟨g,cap,cur,hv,_⟩
  ·exact⟨_,_,_,hv⟩
  ·exact⟨_,_,_,hv⟩
 go_wp2
 go_ret2
 refine⟨rfl,Or.inr ?_,?_,?_⟩
 ·exact Lib.BuilderAt.put (T:=187) (e:=5) hB hb2 (bs':=bs++Lib.strCells s) (by simpa [Lib.strCells_length]using hown') (by decide)
 ·exact(hb1.grown hgrow (by have:=hb1.size;omega) (fun k hk=>(hown.lt k hk).1)).setCell (p:=⟨b,1,none⟩) hB _
 ·exact(hk1.trans (Keep.grown hgrow hown)).trans (Keep.setCell hb2 _)
def W63(B b:Nat)(l:List UInt8)(w:World):Prop:=Lib.IsBuilder 187 5 B b (Lib.byteCells l) w
theorem W63.lt{B b:Nat}{l:List UInt8}{w:World}(h:W63 B b l w):B≤b∧b < w.heap.size:=by
 rcases h with h | h
 ·exact⟨h.1,h.lt⟩
 ·exact⟨h.1,h.lt⟩
theorem W63.below{B b:Nat}{l:List UInt8}{w w':World}(h:W63 B b l w)(hb:Below w.heap.size w w'):W63 B b l w':=by
 have hlt:=(W63.lt h).2
 have key:∀ p,Lib.BuilderAt 187 5 B b p (Lib.byteCells l) w→Lib.BuilderAt 187 5 B b p (Lib.byteCells l) w':=fun p ⟨hB,v,hk,hown,hne⟩ =>
  ⟨hB,v,(hb.block b hlt).trans hk,hown.kept (row:=none) ⟨hb.os,hb.tape,hb.output,hb.size,fun k hk _=>hb.block k hk⟩ (by rcases h:v.ownBlock with _ | g <;> simp),hne⟩
 rcases h with h | h
 ·exact Or.inl (key _ h)
 ·exact Or.inr (key _ h)
theorem W63.drew{B b:Nat}{l:List UInt8}{w:World}(h:W63 B b l w):W63 B b l w.drew:=h
theorem wByte(B b:Nat)(l:List UInt8)(u:UInt8)(c:Int)(w:World)(hc:c=u.toNat)(h:W63 B b l w)(hlen:l.length≤140737488355327)(hBw:B≤w.heap.size) :
  Calls Tryz.prog 164 #[.pointer (some ⟨b,0,none⟩),.int .u8 c] w fun e w'=>e = .returned .nilIface∧W63 B b (l ++ [u]) w'∧Below B w w'∧Keep w w':=by
 subst hc;refine(writeByte_any B b _ _ w h (by simp only[Lib.byteCells_length];omega) hBw).mono fun _ _ ⟨h1,h2,h3,h4⟩=>⟨h1,?_,h3,h4⟩
 unfold W63;rw[show Lib.byteCells (l ++ [u])=Lib.byteCells l ++ [.int .u8 u.toNat] by simp[Lib.byteCells]]
 exact h2
theorem wString(B b:Nat)(l:List UInt8)(s:ByteArray)(w:World)(h:W63 B b l w)(hlen:l.length+s.size≤140737488355328)(hBw:B≤w.heap.size) :
  Calls Tryz.prog 163 #[.pointer (some ⟨b,0,none⟩),.string s] w fun e w'=>e = .returned (.tuple #[.int .i64 s.size,.nilIface])∧W63 B b (l++s.data.toList) w'∧Below B w w'∧Keep w w':=by
 refine(writeString_any B b _ s w h (by simp only[Lib.byteCells_length];omega) hBw).mono fun _ _ ⟨h1,h2,h3,h4⟩=>⟨h1,?_,h3,h4⟩
 unfold W63;rw[show Lib.byteCells (l++s.data.toList)=Lib.byteCells l++Lib.strCells s by simp[Lib.byteCells,Lib.strCells]]
 exact h2
end Go.Proofs.YtcicpjgnpcnnmaaGreatDoor.BT
