import Derived.Test.YtcicpjgnpcnnmaaGreatDoorQ11
import Derived.Test.YtcicpjgnpcnnmaaGreatDoorQ39
set_option maxRecDepth 100000
set_option maxHeartbeats 2000000
set_option linter.unusedSimpArgs false
set_option linter.unusedVariables false
namespace Go.Proofs.YtcicpjgnpcnnmaaGreatDoor
open Go.RowKit
theorem ba_ext{a b:ByteArray}(h:a.data.toList=b.data.toList):a=b:=by
 cases a;cases b;simp only[ByteArray.mk.injEq];exact Array.toList_inj.1 h
theorem ba_ext_list(s:ByteArray)(i j:Nat):(s.extract i j).data.toList=(s.data.toList.drop i).take (j - i):=Lib.extract_data s i j
def togB(f:Nat)(c:UInt8):UInt8:=UInt8.ofNat (SC.tog f c.toNat)
theorem push_list':∀ (l:List Int)(r:ByteArray),(l.foldl (fun r n=>r.push (UInt8.ofNat n.toNat)) r).data.toList=r.data.toList++l.map fun n=>UInt8.ofNat n.toNat
 | [],r=>by simp
 | n::l,r=>by
  rw[List.foldl_cons,push_list' l]
  simp[ByteArray.push]
theorem turned_map(f:Nat)(s:ByteArray):(SC.turnedB f s).data.toList=s.data.toList.map (togB f):=by
 unfold SC.turnedB SC.turnedL;have he:ByteArray.empty.data.toList = []:=rfl;rw[push_list',he,List.nil_append,List.map_map]
 apply List.ext_getElem
 ·simp
 ·intro i h1 h2
  have hi:i < s.data.size:=by simpa using h2
  simp[SC.byteAt,togB]
  rw[Array.getElem?_eq_getElem hi]
  rfl
theorem tog_up:∀ c:Nat,c < 256→SC.tog 65 c=if 65≤c∧c < 91 then c+32 else c:=by decide +kernel
theorem tog_down:∀ c:Nat,c < 256→SC.tog 97 c=if 97≤c∧c < 123 then c - 32 else c:=by decide +kernel
theorem occ_iff(s t:List UInt8)(i:Nat):Lib.occAt s t i=((s.drop i).take t.length == t):=by
 unfold Lib.occAt;rw[Bool.eq_iff_iff,beq_iff_eq,List.isPrefixOf_iff_prefix,List.prefix_iff_eq_take];exact⟨fun h=>h.symm,fun h=>h.symm⟩
theorem pc_in(n i:Nat)(m k:Int)(hi:i < n)(hk:0≤k):(m≤(i:Int)+1∧(i:Int)+1 < m+k)↔(SC.pcA n m≤i∧i < SC.pcB n m k):=by
 unfold SC.pcA SC.pcB
 by_cases h:m < 1∨k < (n:Int)+1 - m
 ·rw[if_pos h];omega
 ·rw[if_neg h];omega
def pcUpto(s:List UInt8)(a b i:Nat):List UInt8:=(s.take (min i b)).drop a
theorem pc_skip{s:List UInt8}{a b i:Nat}(h:¬(a≤i∧i < b)):pcUpto s a b (i+1)=pcUpto s a b i:=by
 unfold pcUpto
 by_cases hb:i < b
 ·have ha:i < a:=by omega
  rw[List.drop_eq_nil_of_le (by rw[List.length_take];omega),List.drop_eq_nil_of_le (by rw[List.length_take];omega)]
 ·rw[show min (i+1) b=min i b by omega]
theorem pc_take{s:List UInt8}{a b i:Nat}(hi:i < s.length)(h:a≤i∧i < b):pcUpto s a b (i+1)=pcUpto s a b i ++ [s[i]]:=by
 unfold pcUpto;rw[show min (i+1) b=i+1 by omega,show min i b=i by omega,List.take_succ_eq_append_getElem hi,List.drop_append_of_le_length (by rw[List.length_take];omega)]
theorem pc_all(s:ByteArray)(m k:Int):pcUpto s.data.toList (SC.pcA s.size m) (SC.pcB s.size m k) s.size=(SC.pc s m k).data.toList:=by
 unfold pcUpto SC.pc;rw[ba_ext_list];have hl:s.data.toList.length=s.size:=by simp
 generalize SC.pcA s.size m=a at *;generalize SC.pcB s.size m k=b at *
 by_cases h:a≤b
 ·by_cases hb:b≤s.size
  ·rw[Nat.min_eq_right hb,List.drop_take]
  ·rw[Nat.min_eq_left (by omega),List.take_of_length_le (by omega),List.take_of_length_le (by rw[List.length_drop];omega)]
 ·rw[List.drop_eq_nil_of_le (by rw[List.length_take];omega),show b - a=0 by omega,List.take_zero]
theorem trim_is{l:List UInt8}{i m:Nat}{c:UInt8}(him:i+m≤l.length)(h1:∀ j (h:j < l.length),j < i→l[j]=c)(h2:∀ j (h:j < l.length),i+m≤j→l[j]=c)(h3:∀ h:i < l.length,0 < m→l[i]≠c)(h4:∀ h:i+m - 1 < l.length,0 < m→l[i+m - 1]≠c):Lib.trimB l c=(l.drop i).take m:=by
 unfold Lib.trimB
 by_cases hm:m=0
 ·subst hm
  have hall:∀ j (h:j < l.length),l[j]=c:=fun j h=>by
   by_cases hj:j < i
   ·exact h1 j h hj
   ·exact h2 j h (by omega)
  rw[Lib.trimRightB_take l c 0 (Nat.zero_le _) (fun j b _ hb=>by
   obtain⟨hj,rfl⟩:=List.getElem?_eq_some_iff.1 hb;exact hall j hj) (fun b h=>absurd h (Nat.lt_irrefl 0))]
  simp[Lib.trimLeftB]
 ·rw[Lib.trimRightB_take l c (i+m) him (fun j b hj hb=>by
   obtain⟨hj',rfl⟩:=List.getElem?_eq_some_iff.1 hb;exact h2 j hj' hj) (fun b _ hb=>by
   obtain⟨hj',rfl⟩:=List.getElem?_eq_some_iff.1 hb;exact h4 hj' (by omega))]
  rw[Lib.trimLeftB_drop (l.take (i+m)) c i (by rw[List.length_take];omega) (fun j b hj hb=>by
   rw[List.getElem?_take_of_lt (by omega)]at hb
   obtain⟨hj',rfl⟩:=List.getElem?_eq_some_iff.1 hb;exact h1 j hj' hj) (fun b hb=>by
   rw[List.getElem?_take_of_lt (by omega)]at hb
   obtain⟨hj',rfl⟩:=List.getElem?_eq_some_iff.1 hb;exact h3 hj' (by omega))]
  rw[List.drop_take,Nat.add_sub_cancel_left]
theorem replaceK_same(t:List UInt8):∀ (k:Nat)(s:List UInt8),Lib.replaceK t t k s=s
 | 0,s=>rfl
 | k+1,s=>by
  rcases Lib.index_spec s t with ⟨h,-⟩ | ⟨i,h,h1,h2,-⟩
  ·simp[Lib.replaceK,h]
  ·rw[Lib.replaceK_hit t t k s i h,replaceK_same t k]
   have h3:=occ_iff s t i;rw[h2]at h3;have h4:(s.drop i).take t.length=t:=beq_iff_eq.1 h3.symm;rw[←List.drop_drop]
   conv=>lhs;arg 1;arg 2;rw[←h4]
   rw[List.append_assoc,List.take_append_drop,List.take_append_drop]
theorem replaceAll_eq(s t u:List UInt8):Lib.replaceAll s t u=Lib.replaceK t u (Lib.count s t) s:=by
 unfold Lib.replaceAll Lib.replace
 split
 ·rename_i h
  rw[beq_iff_eq]at h;rw[←h,replaceK_same]
 ·have:Lib.replaceNum s t (-1)=Lib.count s t:=by unfold Lib.replaceNum;simp
  rw[this]
theorem repl_none{s t:List UInt8}(u:List UInt8)(h:Lib.index s t = -1):Lib.replaceAll s t u=s:=by
 rw[replaceAll_eq,Lib.count_miss h]
 rfl
theorem repl_some{s t:List UInt8}(u:List UInt8){i:Nat}(ht:t≠[])(h:Lib.index s t=i):Lib.replaceAll s t u=s.take i++u++Lib.replaceAll (s.drop (i+t.length)) t u:=by
 rw[replaceAll_eq,Lib.count_hit ht h,Nat.add_comm,Lib.replaceK_hit t u _ s i h,replaceAll_eq]
theorem oneA(w:World)(o:Obj):Below w.heap.size w (w.alloc o):=(Below.refl _ _).alloc (Nat.le_refl _) _
theorem bthA{a b c:World}(h:Below a.heap.size a b)(h2:Below b.heap.size b c):Below a.heap.size a c:=h.trans (h2.mono h.size)
theorem ext_oneR(s:ByteArray)(k:Nat)(h:k < s.size):(s.extract k (k+1)).data.toList = [s[k]]:=by
 rw[ba_ext_list,Nat.add_sub_cancel_left,List.drop_eq_getElem_cons (by simpa using h)]
 rfl
theorem ba_appR(a b:ByteArray):(a++b).data.toList=a.data.toList++b.data.toList:=by simp
theorem ba_len(a:ByteArray):a.data.toList.length=a.size:=by simp
theorem conv1(w:World)(u:UInt8)(c:Int)(hc:c=u.toNat):(convert 185 9 (.slice (some ⟨w.heap.size,0,none⟩) 1 1)).run Tryz.prog (w.alloc (.cells #[.int .u8 c] 5)) = .ok (.string ⟨#[u]⟩) (w.alloc (.cells #[.int .u8 c] 5)):=by
 subst hc;have hn:(w.alloc (.cells #[.int .u8 (u.toNat:Int)] 5)).heap[w.heap.size]? = some (.cells #[.int .u8 (u.toNat:Int)] 5 (0,0)):=heap_alloc_new w _
 exact run_convert_bytes_back (P:=Tryz.prog) (w.alloc (.cells #[.int .u8 (u.toNat:Int)] 5)) 185 9 5 ⟨w.heap.size,0,none⟩ 1 [u] Tryz.underlying185 Tryz.underlying5 Tryz.underlying9 (fun j hj=>by
  rw[WideShapes.add_plain,Nat.zero_add,Lib.cell_of_heap hn]
  match j,hj with
  | 0,_=>rfl)
theorem map_snoc{l:List UInt8}{g:UInt8→UInt8}{k:Nat}(h:k < l.length):(l.take (k+1)).map g=(l.take k).map g ++ [g l[k]]:=by
 rw[List.take_succ_eq_append_getElem h,List.map_append]
 rfl
theorem map_room{s:ByteArray}{g:UInt8→UInt8}{k:Nat}{b:ByteArray}(hs:s.size≤100000000)(h:b.data.toList=(s.data.toList.take k).map g):b.size≤100000000:=by
 have:=congrArg List.length h;rw[ba_len,List.length_map,List.length_take,ba_len]at this
 omega
theorem turn65(s:ByteArray)(hs:s.size≤100000000)(w:World) :
  Calls Tryz.prog 152 #[.string s,.int .u8 65,.int .u8 97] w fun e w'=>e = .returned (.string (SC.turnedB 65 s))∧Below w.heap.size w w':=by
 have HFIN:Hid (∀ b:ByteArray,b.data.toList=s.data.toList.map (togB 65)→b=SC.turnedB 65 s):=Hi fun b h=>ba_ext (by rw[turned_map];exact h)
 have HB0:Hid (Below w.heap.size w w):=Hi (Below.refl _ _);go_enter Tryz.func152,Tryz.ntmps152;go_wp2_with fail
 go_loopw [7,8] (fun t i wr=>∃ (k:Nat) (b:ByteArray),k≤s.size∧i = .int .i64 (k:Int)∧t = .string b∧Hid (b.data.toList=(s.data.toList.take k).map (togB 65))∧Hid (Below w.heap.size w wr)) (fun _ i _=>s.size - (intOf i).toNat)
 case atStart=>exact⟨0,⟨#[]⟩,Nat.zero_le _,rfl,rfl,Hi (by simp),HB0⟩
 case round =>
  clear HB0;obtain⟨k,b,hk,rfl,rfl,hd,HB⟩:=hrel;have hbs:=map_room hs hd.out
  by_cases hlt:k < s.size
  ·have hlt':k < s.data.toList.length:=by rw[ba_len];exact hlt
   have HX:Hid ((s.data.toList.take (k+1)).map (togB 65)=b.data.toList ++ [togB 65 s[k]]):=Hi (by rw[map_snoc hlt',hd.out];rfl)
   have hbt:s[k].toNat < 256:=UInt8.toNat_lt _;have HT:Hid (SC.tog 65 s[k].toNat=if 65≤s[k].toNat∧s[k].toNat < 91 then s[k].toNat+32 else s[k].toNat):=Hi (tog_up _ hbt)
   have hcat:¬9223372036854775807 < b.size+1:=by omega
   have hkz:(k:Int) < (s.size:Int):=by omega
   have HB':=Hi (bthA HB.out (oneA wr (.cells #[.int .u8 (s[k].toNat:Int)] 5)));have HB2:=Hi (bthA HB.out (oneA wr (.cells #[.int .u8 ((s[k].toNat:Int)+32)] 5)))
   by_cases h1:65≤s[k].toNat
   ·have h1z:(65:Int)≤(s[k].toNat:Int):=by omega
    by_cases h2:s[k].toNat < 91
    ·have h2z:(s[k].toNat:Int) < 91:=by omega
     have hu:((s[k].toNat:Int)+32)=((togB 65 s[k]).toNat:Int):=by
      unfold togB;rw[HT.out,if_pos ⟨h1,h2⟩,UInt8.toNat_ofNat_of_lt' (by show _ < 256;omega)]
      omega
     have hconv:=conv1 wr (togB 65 s[k]) _ hu;have hw1:IntKind.u8.wrap ((s[k].toNat:Int) - 65)=(s[k].toNat:Int) - 65:=by rw[IntKind.wrap_u8];omega
     have hw2:IntKind.u8.wrap ((s[k].toNat:Int) - 65+97)=(s[k].toNat:Int)+32:=by rw[IntKind.wrap_u8];omega
     clear h1 h2 hu HB';go_wp2_with fail
     go_roundw
     case rel=>exact⟨k+1,b++⟨#[togB 65 s[k]]⟩,by omega,by go_num,rfl,Hi (by rw[HX.out,ba_appR]),HB2⟩
     case measure=>simp[intOf];omega
    ·have h2z:¬(s[k].toNat:Int) < 91:=by omega
     have hu:(s[k].toNat:Int)=((togB 65 s[k]).toNat:Int):=by
      unfold togB;rw[HT.out,if_neg (by omega),UInt8.ofNat_toNat]
     have hconv:=conv1 wr (togB 65 s[k]) _ hu;clear h1 h2 hu HB2;go_wp2_with fail
     go_roundw
     case rel=>exact⟨k+1,b++⟨#[togB 65 s[k]]⟩,by omega,by go_num,rfl,Hi (by rw[HX.out,ba_appR]),HB'⟩
     case measure=>simp[intOf];omega
   ·have h1z:¬(65:Int)≤(s[k].toNat:Int):=by omega
    have hu:(s[k].toNat:Int)=((togB 65 s[k]).toNat:Int):=by
     unfold togB;rw[HT.out,if_neg (by omega),UInt8.ofNat_toNat]
    have hconv:=conv1 wr (togB 65 s[k]) _ hu;clear h1 hu HB2;go_wp2_with fail
    go_roundw
    case rel=>exact⟨k+1,b++⟨#[togB 65 s[k]]⟩,by omega,by go_num,rfl,Hi (by rw[HX.out,ba_appR]),HB'⟩
    case measure=>simp[intOf];omega
  ·obtain rfl:k=s.size:=by omega
   have h:=hd.out;rw[List.take_of_length_le (by rw[ba_len];exact Nat.le_refl _)]at h
   have HF:=Hi (HFIN.out b h);clear h;go_wp2_with fail
   go_ret
   exact⟨by rw[←HF.out];rfl,HB.out⟩
theorem turn97(s:ByteArray)(hs:s.size≤100000000)(w:World) :
  Calls Tryz.prog 152 #[.string s,.int .u8 97,.int .u8 65] w fun e w'=>e = .returned (.string (SC.turnedB 97 s))∧Below w.heap.size w w':=by
 have HFIN:Hid (∀ b:ByteArray,b.data.toList=s.data.toList.map (togB 97)→b=SC.turnedB 97 s):=Hi fun b h=>ba_ext (by rw[turned_map];exact h)
 have HB0:Hid (Below w.heap.size w w):=Hi (Below.refl _ _);go_enter Tryz.func152,Tryz.ntmps152;go_wp2_with fail
 go_loopw [7,8] (fun t i wr=>∃ (k:Nat) (b:ByteArray),k≤s.size∧i = .int .i64 (k:Int)∧t = .string b∧Hid (b.data.toList=(s.data.toList.take k).map (togB 97))∧Hid (Below w.heap.size w wr)) (fun _ i _=>s.size - (intOf i).toNat)
 case atStart=>exact⟨0,⟨#[]⟩,Nat.zero_le _,rfl,rfl,Hi (by simp),HB0⟩
 case round =>
  clear HB0;obtain⟨k,b,hk,rfl,rfl,hd,HB⟩:=hrel;have hbs:=map_room hs hd.out
  by_cases hlt:k < s.size
  ·have hlt':k < s.data.toList.length:=by rw[ba_len];exact hlt
   have HX:Hid ((s.data.toList.take (k+1)).map (togB 97)=b.data.toList ++ [togB 97 s[k]]):=Hi (by rw[map_snoc hlt',hd.out];rfl)
   have hbt:s[k].toNat < 256:=UInt8.toNat_lt _;have HT:Hid (SC.tog 97 s[k].toNat=if 97≤s[k].toNat∧s[k].toNat < 123 then s[k].toNat - 32 else s[k].toNat):=Hi (tog_down _ hbt)
   have hcat:¬9223372036854775807 < b.size+1:=by omega
   have hkz:(k:Int) < (s.size:Int):=by omega
   have HB':=Hi (bthA HB.out (oneA wr (.cells #[.int .u8 (s[k].toNat:Int)] 5)));have HB2:=Hi (bthA HB.out (oneA wr (.cells #[.int .u8 ((s[k].toNat:Int) - 32)] 5)))
   by_cases h1:97≤s[k].toNat
   ·have h1z:(97:Int)≤(s[k].toNat:Int):=by omega
    by_cases h2:s[k].toNat < 123
    ·have h2z:(s[k].toNat:Int) < 123:=by omega
     have hu:((s[k].toNat:Int) - 32)=((togB 97 s[k]).toNat:Int):=by
      unfold togB;rw[HT.out,if_pos ⟨h1,h2⟩,UInt8.toNat_ofNat_of_lt' (by show _ < 256;omega)]
      omega
     have hconv:=conv1 wr (togB 97 s[k]) _ hu;have hw1:IntKind.u8.wrap ((s[k].toNat:Int) - 97)=(s[k].toNat:Int) - 97:=by rw[IntKind.wrap_u8];omega
     have hw2:IntKind.u8.wrap ((s[k].toNat:Int) - 97+65)=(s[k].toNat:Int) - 32:=by rw[IntKind.wrap_u8];omega
     clear h1 h2 hu HB';go_wp2_with fail
     go_roundw
     case rel=>exact⟨k+1,b++⟨#[togB 97 s[k]]⟩,by omega,by go_num,rfl,Hi (by rw[HX.out,ba_appR]),HB2⟩
     case measure=>simp[intOf];omega
    ·have h2z:¬(s[k].toNat:Int) < 123:=by omega
     have hu:(s[k].toNat:Int)=((togB 97 s[k]).toNat:Int):=by
      unfold togB;rw[HT.out,if_neg (by omega),UInt8.ofNat_toNat]
     have hconv:=conv1 wr (togB 97 s[k]) _ hu;clear h1 h2 hu HB2;go_wp2_with fail
     go_roundw
     case rel=>exact⟨k+1,b++⟨#[togB 97 s[k]]⟩,by omega,by go_num,rfl,Hi (by rw[HX.out,ba_appR]),HB'⟩
     case measure=>simp[intOf];omega
   ·have h1z:¬(97:Int)≤(s[k].toNat:Int):=by omega
    have hu:(s[k].toNat:Int)=((togB 97 s[k]).toNat:Int):=by
     unfold togB;rw[HT.out,if_neg (by omega),UInt8.ofNat_toNat]
    have hconv:=conv1 wr (togB 97 s[k]) _ hu;clear h1 hu HB2;go_wp2_with fail
    go_roundw
    case rel=>exact⟨k+1,b++⟨#[togB 97 s[k]]⟩,by omega,by go_num,rfl,Hi (by rw[HX.out,ba_appR]),HB'⟩
    case measure=>simp[intOf];omega
  ·obtain rfl:k=s.size:=by omega
   have h:=hd.out;rw[List.take_of_length_le (by rw[ba_len];exact Nat.le_refl _)]at h
   have HF:=Hi (HFIN.out b h);clear h;go_wp2_with fail
   go_ret
   exact⟨by rw[←HF.out];rfl,HB.out⟩
theorem occ_ext(s t:ByteArray)(k:Nat):((s.extract k (k+t.size)).toList == t.toList)=Lib.occAt s.data.toList t.data.toList k:=by
 rw[Lib.toList_data,Lib.toList_data,ba_ext_list,occ_iff,Nat.add_sub_cancel_left,ba_len]
theorem rat_txt(s t:ByteArray)(hs:s.size≤100000000)(ht:t.size≤100000000)(w:World) :
  Calls Tryz.prog 154 #[.string s,.string t,.int .i64 0] w fun e w'=>e = .returned (.int .i64 (Lib.index s.data.toList t.data.toList))∧Below w.heap.size w w':=by
 have HE:=Hi (occ_ext s t);have HB0:Hid (Below w.heap.size w w):=Hi (Below.refl _ _);have HHIT:Hid (∀ k:Nat,k+t.size≤s.size→Lib.NoOcc s.data.toList t.data.toList k→Lib.occAt s.data.toList t.data.toList k=true→Lib.index s.data.toList t.data.toList=k):=Hi fun k h1 h2 h3=>Lib.index_hit h2 (by rw[ba_len];omega) h3
 have HMISS:Hid (∀ k:Nat,¬k+t.size≤s.size→Lib.NoOcc s.data.toList t.data.toList k→Lib.index s.data.toList t.data.toList = -1):=Hi fun k h1 h2=>by
  have hne:t.data.toList≠[]:=by
   intro h0;have hz:t.size=0:=by rw[←ba_len,h0];rfl
   have hk:0 < k:=by omega
   have:=h2 0 hk;rw[h0]at this
   simp[Lib.occAt]at this
  exact Lib.index_past hne h2 (by rw[ba_len,ba_len];omega)
 have H0:Hid (Lib.NoOcc s.data.toList t.data.toList 0):=Hi fun j h=>absurd h (Nat.not_lt_zero _)
 generalize Lib.index s.data.toList t.data.toList=I at *;go_enter Tryz.func154,Tryz.ntmps154;go_wp2_with fail
 go_loopw [2] (fun i wr=>∃ k:Nat,k≤s.size+1∧i = .int .i64 (k:Int)∧Hid (Lib.NoOcc s.data.toList t.data.toList k)∧Hid (Below w.heap.size w wr)) (fun i _=>s.size+1 - (intOf i).toNat)
 case atStart=>exact⟨0,Nat.zero_le _,rfl,H0,HB0⟩
 case round =>
  clear HB0 H0;obtain⟨k,hk,rfl,HN,HB⟩:=hrel
  by_cases hlt:k+t.size≤s.size
  ·have hlz:(k:Int)+(t.size:Int)≤(s.size:Int):=by omega
   have h1:k≤k+t.size:=by omega
   have he:=HE.out k;cases ho:Lib.occAt s.data.toList t.data.toList k
   ·rw[ho]at he
    have HN':Hid (Lib.NoOcc s.data.toList t.data.toList (k+1)):=Hi fun j hj=>by
     rcases Nat.lt_or_eq_of_le (Nat.le_of_lt_succ hj)with h | h
     ·exact HN.out j h
     ·rw[h];exact ho
    clear ho;go_wp2_with fail
    go_roundw
    case rel=>exact⟨k+1,by omega,by go_num,HN',HB⟩
    case measure=>simp[intOf];omega
   ·rw[ho]at he
    have HF:=Hi (HHIT.out k hlt HN.out ho);clear ho;go_wp2_with fail
    go_ret
    exact⟨by rw[HF.out];rfl,HB.out⟩
  ·have hlz:¬(k:Int)+(t.size:Int)≤(s.size:Int):=by omega
   have HF:=Hi (HMISS.out k hlt HN.out);go_wp2_with fail
   go_ret
   exact⟨by rw[HF.out];rfl,HB.out⟩
theorem part_txt(s:ByteArray)(m k:Int)(hs:s.size≤100000000)(hm : -9223372036854775808≤m∧m≤9223372036854775807)(hk:0≤k)(hk':k≤9223372036854775807)(w:World) :
  Calls Tryz.prog 153 #[.string s,.int .i64 m,.int .i64 k] w fun e w'=>e = .returned (.string (SC.pc s m k))∧Below w.heap.size w w':=by
 have HFIN:Hid (∀ b:ByteArray,b.data.toList=pcUpto s.data.toList (SC.pcA s.size m) (SC.pcB s.size m k) s.size→b=SC.pc s m k):=Hi fun b h=>ba_ext (by rw[←pc_all];exact h)
 have HB0:Hid (Below w.heap.size w w):=Hi (Below.refl _ _);have HIN:=Hi (fun i (hi:i < s.size)=>pc_in s.size i m k hi hk)
 generalize SC.pcA s.size m=A at *;generalize SC.pcB s.size m k=B at *
 have HRM:Hid (∀ (b:ByteArray) i,b.data.toList=pcUpto s.data.toList A B i→b.size≤s.size):=Hi fun b i h=>by
  have:=congrArg List.length h;unfold pcUpto at this;rw[ba_len,List.length_drop,List.length_take,ba_len]at this
  omega
 generalize SC.pc s m k=R at *;go_enter Tryz.func153,Tryz.ntmps153;go_wp2_with fail
 go_loopw [7,8] (fun t i wr=>∃ (j:Nat) (b:ByteArray),j≤s.size∧i = .int .i64 (j:Int)∧t = .string b∧Hid (b.data.toList=pcUpto s.data.toList A B j)∧Hid (Below w.heap.size w wr)) (fun _ i _=>s.size - (intOf i).toNat)
 case atStart=>exact⟨0,⟨#[]⟩,Nat.zero_le _,rfl,rfl,Hi (by simp[pcUpto]),HB0⟩
 case round =>
  clear HB0;obtain⟨j,b,hj,rfl,rfl,hd,HB⟩:=hrel;have hbs:=HRM.out b j hd.out
  by_cases hlt:j < s.size
  ·have hjz:(j:Int) < (s.size:Int):=by omega
   have hlt':j < s.data.toList.length:=by rw[ba_len];exact hlt
   have HSK:Hid (¬(m≤(j:Int)+1∧(j:Int)+1 < m+k)→b.data.toList=pcUpto s.data.toList A B (j+1)):=Hi fun h=>by rw[pc_skip (fun h2=>h ((HIN.out j hlt).2 h2))];exact hd.out
   have HTK:Hid ((m≤(j:Int)+1∧(j:Int)+1 < m+k)→(b++s.extract j (j+1)).data.toList=pcUpto s.data.toList A B (j+1)):=Hi fun h=>by
    rw[pc_take hlt' ((HIN.out j hlt).1 h),ba_appR,ext_oneR s j hlt,hd.out]
    rfl
   have hes:(s.extract j (j+1)).size=1:=by simp;omega
   have hcat:¬9223372036854775807 < b.size+(s.extract j (j+1)).size:=by omega
   have hcat2:¬9223372036854775807 < b.size+1:=by omega
   by_cases h1:(j:Int)+1 < m
   ·have HD:=Hi (HSK.out (by omega))
    go_wp2_with fail
    go_roundw
    case rel=>exact⟨j+1,b,by omega,by go_num,rfl,HD,HB⟩
    case measure=>simp[intOf];omega
   ·by_cases h2:0 < m
    ·have h2':¬m≤0:=by omega
     have hw1:IntKind.i64.wrap ((j:Int)+1 - m)=(j:Int)+1 - m:=by rw[IntKind.wrap_i64];omega
     by_cases h3:k≤(j:Int)+1 - m
     ·have HD:=Hi (HSK.out (by omega))
      go_wp2_with fail
      go_roundw
      case rel=>exact⟨j+1,b,by omega,by go_num,rfl,HD,HB⟩
      case measure=>simp[intOf];omega
     ·have HD:=Hi (HTK.out (by omega))
      go_wp2_with fail
      go_roundw
      case rel=>exact⟨j+1,_,by omega,by go_num,rfl,HD,HB⟩
      case measure=>simp[intOf];omega
    ·have h2':m≤0:=by omega
     have hw1:IntKind.i64.wrap ((j:Int)+1 - k)=(j:Int)+1 - k:=by rw[IntKind.wrap_i64];omega
     by_cases h3:m≤(j:Int)+1 - k
     ·have HD:=Hi (HSK.out (by omega))
      go_wp2_with fail
      go_roundw
      case rel=>exact⟨j+1,b,by omega,by go_num,rfl,HD,HB⟩
      case measure=>simp[intOf];omega
     ·have HD:=Hi (HTK.out (by omega))
      go_wp2_with fail
      go_roundw
      case rel=>exact⟨j+1,_,by omega,by go_num,rfl,HD,HB⟩
      case measure=>simp[intOf];omega
  ·obtain rfl:j=s.size:=by omega
   have HF:=Hi (HFIN.out b hd.out);go_wp2_with fail
   go_ret
   exact⟨by rw[←HF.out];rfl,HB.out⟩
theorem repl_len(s t u:List UInt8)(ht:t≠[])(h1:s.length≤100000000)(h2:u.length≤100000000):(Lib.replaceAll s t u).length≤20000000200000000:=by
 have h:=replaceAll_len s t u ht;have hc:=Lib.count_le s t;have h3:Lib.count s t*u.length≤100000001*100000000:=Nat.mul_le_mul (by omega) h2
 omega
def RpT(R:List UInt8)(w:World)(q:Ending)(w':World):Prop:=((R.length≤100000∧∃ b:ByteArray,b.data.toList=R∧q = .returned (.tuple #[.string b,.int .i64 0]))∨(¬R.length≤100000∧q = .returned (.tuple #[.string ⟨#[]⟩,.int .i64 30])))∧Below w.heap.size w w'
theorem repl_empty(s u:ByteArray)(w:World):Calls Tryz.prog 155 #[.string s,.string ⟨#[]⟩,.string u] w fun q w'=>q = .returned (.tuple #[.string s,.int .i64 0])∧Below w.heap.size w w':=by
 go_enter Tryz.func155,Tryz.ntmps155;go_wp2_with fail
 go_ret2
 exact⟨rfl,Below.refl _ _⟩
theorem repl_txt(s t u:ByteArray)(hs:s.size≤100000000)(ht:t.size≤100000000)(hu:u.size≤100000000)(h0:0 < t.size)(w:World) :
  Calls Tryz.prog 155 #[.string s,.string t,.string u] w (RpT (Lib.replaceAll s.data.toList t.data.toList u.data.toList) w):=by
 have hte:t.data.toList≠[]:=fun h=>by have:=ba_len t;rw[h]at this;simp at this;omega
 have hem:(t.toList == [])=false:=by rw[Lib.toList_data];simpa using hte
 have HRL:Hid (∀ s':ByteArray,s'.size≤100000000→(Lib.replaceAll s'.data.toList t.data.toList u.data.toList).length≤20000000200000000):=Hi fun s' h=>repl_len _ _ _ hte (by rw[ba_len];exact h) (by rw[ba_len];exact hu)
 have HTE:=Hi hte;have hRl:=HRL.out s hs;have HB0:Hid (Below w.heap.size w w):=Hi (Below.refl _ _);obtain⟨R,hR⟩:∃ R,Lib.replaceAll s.data.toList t.data.toList u.data.toList=R:=⟨_,rfl⟩;have H0:Hid ((⟨#[]⟩:ByteArray).data.toList++Lib.replaceAll s.data.toList t.data.toList u.data.toList=R):=Hi hR;rw[hR]at hRl ⊢;have HYES:Hid (∀ (b:ByteArray) W,b.data.toList=R→b.size≤100000→Below w.heap.size w W→RpT R w (.returned (.tuple #[.string b,.int .i64 0])) W):=Hi fun b W h1 h2 h3=>⟨.inl ⟨by rw[←h1,ba_len];exact h2,b,h1,rfl⟩,h3⟩
 have HNO:Hid (∀ (b:ByteArray) W,b.data.toList=R→¬b.size≤100000→Below w.heap.size w W→RpT R w (.returned (.tuple #[.string ⟨#[]⟩,.int .i64 30])) W):=Hi fun b W h1 h2 h3=>⟨.inr ⟨by rw[←h1,ba_len];exact h2,rfl⟩,h3⟩
 clear hR hte;go_enter Tryz.func155,Tryz.ntmps155;go_wp2_with fail
 go_loopw [0,8] (fun sv ov wr=>∃ s' o:ByteArray,sv = .string s'∧ov = .string o∧s'.size≤100000000∧Hid (o.data.toList++Lib.replaceAll s'.data.toList t.data.toList u.data.toList=R)∧Hid (Below w.heap.size w wr)) (fun sv _ _=>match sv with | .string b=>b.size | _=>0)
 case atStart=>exact⟨s,⟨#[]⟩,rfl,rfl,hs,H0,HB0⟩
 case round =>
  clear H0 HB0;obtain⟨s',o,rfl,rfl,hs',HR,HB⟩:=hrel
  have hol:o.size≤20000000200000000:=by
   have:=congrArg List.length HR.out;rw[List.length_append,ba_len]at this
   omega
  have HX:=rat_txt s' t hs' ht wr;rcases Lib.index_spec s'.data.toList t.data.toList with ⟨hi,-⟩ | ⟨i,hi,-⟩
  ·rw[hi]at HX
   have HX:=Hi HX;have HE:Hid ((o++s').data.toList=R):=Hi (by rw[ba_appR,←HR.out,repl_none _ hi])
   have hcat:¬9223372036854775807 < o.size+s'.size:=by omega
   have hsz:(o++s').size=o.size+s'.size:=by simp
   have HSZ:=Hi hsz;clear hi hsz
   by_cases hb:o.size+s'.size≤100000
   ·have hbz:¬(o.size:Int)+(s'.size:Int) > 100000:=by omega
    have hbz2:¬(100000:Int) < (o.size:Int)+(s'.size:Int):=by omega
    go_wp2_with fail;refine HX.out.mono ?_;rintro q w3 ⟨rfl,b3⟩;have HF:=Hi (HYES.out (o++s') w3 HE.out (by rw[HSZ.out];exact hb) (bthA HB.out b3))
    clear HX b3;go_wp2_with fail
    go_ret2
    exact HF.out
   ·have hbz:(o.size:Int)+(s'.size:Int) > 100000:=by omega
    have hbz2:(100000:Int) < (o.size:Int)+(s'.size:Int):=by omega
    go_wp2_with fail;refine HX.out.mono ?_;rintro q w3 ⟨rfl,b3⟩;have HF:=Hi (HNO.out (o++s') w3 HE.out (by rw[HSZ.out];exact hb) (bthA HB.out b3))
    clear HX b3;go_wp2_with fail
    go_ret2
    exact HF.out
  ·have hroom:=Lib.index_room s'.data.toList t.data.toList (by omega)
   rw[hi,ba_len,ba_len]at hroom;have hr:i+t.size≤s'.size:=by omega
   rw[hi]at HX;have HX:=Hi HX
   have HE:Hid ((o++(s'.extract 0 i++u)).data.toList++Lib.replaceAll (s'.extract (i+t.size) s'.size).data.toList t.data.toList u.data.toList=R):=Hi (by
    rw[←HR.out,repl_some u.data.toList HTE.out hi,ba_appR,ba_appR,ba_ext_list,ba_ext_list,ba_len];simp only[List.drop_zero,Nat.sub_zero,List.append_assoc];rw[List.take_of_length_le (show(List.drop (i+t.size) s'.data.toList).length≤s'.size - (i+t.size) by rw[List.length_drop,ba_len];exact Nat.le_refl _)])
   have hes:(s'.extract 0 i).size=i:=by simp;omega
   have hes2:(s'.extract (i+t.size) s'.size).size=s'.size - (i+t.size):=by simp
   have hcat1:¬9223372036854775807 < (s'.extract 0 i).size+u.size:=by omega
   have hcat2:¬9223372036854775807 < i+u.size:=by omega
   have hcat3:¬9223372036854775807 < o.size+(i+u.size):=by omega
   have hcat4:¬9223372036854775807 < o.size+((s'.extract 0 i).size+u.size):=by omega
   have hi1:i≤s'.size:=by omega
   have hneg:¬(i:Int) < 0:=by omega
   have hadd:(i:Int)+(t.size:Int)≤(s'.size:Int):=by omega
   have HES2:=Hi hes2;clear hi hes2 hroom;go_wp2_with fail;refine HX.out.mono ?_;rintro q w3 ⟨rfl,b3⟩;have HB3:=Hi (bthA HB.out b3);clear HX b3 HB;go_wp2_with fail
   go_roundw
   case rel=>exact⟨_,_,rfl,rfl,by rw[HES2.out];omega,HE,HB3⟩
   case measure=>simp only[HES2.out];omega
theorem ar_coalesce(w:World):Calls Tryz.prog 109 #[.string ⟨#[99,111,97,108,101,115,99,101]⟩] w fun e w'=>e = .returned (.tuple #[.int .i64 1,.int .i64 (-1),.bool true])∧Below w.heap.size w w':=by
 go_enter Tryz.func109,Tryz.ntmps109;go_wp2_with fail
 go_ret3
 exact⟨rfl,Below.refl _ _⟩
theorem ar_abs(w:World):Calls Tryz.prog 109 #[.string ⟨#[97,98,115]⟩] w fun e w'=>e = .returned (.tuple #[.int .i64 1,.int .i64 1,.bool true])∧Below w.heap.size w w':=by
 go_enter Tryz.func109,Tryz.ntmps109;go_wp2_with fail
 go_ret3
 exact⟨rfl,Below.refl _ _⟩
theorem ar_sign(w:World):Calls Tryz.prog 109 #[.string ⟨#[115,105,103,110]⟩] w fun e w'=>e = .returned (.tuple #[.int .i64 1,.int .i64 1,.bool true])∧Below w.heap.size w w':=by
 go_enter Tryz.func109,Tryz.ntmps109;go_wp2_with fail
 go_ret3
 exact⟨rfl,Below.refl _ _⟩
theorem ar_length(w:World):Calls Tryz.prog 109 #[.string ⟨#[108,101,110,103,116,104]⟩] w fun e w'=>e = .returned (.tuple #[.int .i64 1,.int .i64 1,.bool true])∧Below w.heap.size w w':=by
 go_enter Tryz.func109,Tryz.ntmps109;go_wp2_with fail
 go_ret3
 exact⟨rfl,Below.refl _ _⟩
theorem ar_lower(w:World):Calls Tryz.prog 109 #[.string ⟨#[108,111,119,101,114]⟩] w fun e w'=>e = .returned (.tuple #[.int .i64 1,.int .i64 1,.bool true])∧Below w.heap.size w w':=by
 go_enter Tryz.func109,Tryz.ntmps109;go_wp2_with fail
 go_ret3
 exact⟨rfl,Below.refl _ _⟩
theorem ar_upper(w:World):Calls Tryz.prog 109 #[.string ⟨#[117,112,112,101,114]⟩] w fun e w'=>e = .returned (.tuple #[.int .i64 1,.int .i64 1,.bool true])∧Below w.heap.size w w':=by
 go_enter Tryz.func109,Tryz.ntmps109;go_wp2_with fail
 go_ret3
 exact⟨rfl,Below.refl _ _⟩
theorem ar_trim(w:World):Calls Tryz.prog 109 #[.string ⟨#[116,114,105,109]⟩] w fun e w'=>e = .returned (.tuple #[.int .i64 1,.int .i64 1,.bool true])∧Below w.heap.size w w':=by
 go_enter Tryz.func109,Tryz.ntmps109;go_wp2_with fail
 go_ret3
 exact⟨rfl,Below.refl _ _⟩
theorem ar_nullif(w:World):Calls Tryz.prog 109 #[.string ⟨#[110,117,108,108,105,102]⟩] w fun e w'=>e = .returned (.tuple #[.int .i64 2,.int .i64 2,.bool true])∧Below w.heap.size w w':=by
 go_enter Tryz.func109,Tryz.ntmps109;go_wp2_with fail
 go_ret3
 exact⟨rfl,Below.refl _ _⟩
theorem ar_instr(w:World):Calls Tryz.prog 109 #[.string ⟨#[105,110,115,116,114]⟩] w fun e w'=>e = .returned (.tuple #[.int .i64 2,.int .i64 2,.bool true])∧Below w.heap.size w w':=by
 go_enter Tryz.func109,Tryz.ntmps109;go_wp2_with fail
 go_ret3
 exact⟨rfl,Below.refl _ _⟩
theorem ar_substr(w:World):Calls Tryz.prog 109 #[.string ⟨#[115,117,98,115,116,114]⟩] w fun e w'=>e = .returned (.tuple #[.int .i64 3,.int .i64 3,.bool true])∧Below w.heap.size w w':=by
 go_enter Tryz.func109,Tryz.ntmps109;go_wp2_with fail
 go_ret3
 exact⟨rfl,Below.refl _ _⟩
theorem ar_replace(w:World):Calls Tryz.prog 109 #[.string ⟨#[114,101,112,108,97,99,101]⟩] w fun e w'=>e = .returned (.tuple #[.int .i64 3,.int .i64 3,.bool true])∧Below w.heap.size w w':=by
 go_enter Tryz.func109,Tryz.ntmps109;go_wp2_with fail
 go_ret3
 exact⟨rfl,Below.refl _ _⟩
theorem ar_none(s:ByteArray)(h0:(s.toList == [99,111,97,108,101,115,99,101])=false)(h1:(s.toList == [97,98,115])=false)(h2:(s.toList == [115,105,103,110])=false)(h3:(s.toList == [108,101,110,103,116,104])=false)(h4:(s.toList == [108,111,119,101,114])=false)(h5:(s.toList == [117,112,112,101,114])=false)(h6:(s.toList == [116,114,105,109])=false)(h7:(s.toList == [110,117,108,108,105,102])=false)(h8:(s.toList == [105,110,115,116,114])=false)(h9:(s.toList == [115,117,98,115,116,114])=false)(h10:(s.toList == [114,101,112,108,97,99,101])=false)(w:World):Calls Tryz.prog 109 #[.string s] w fun e w'=>e = .returned (.tuple #[.int .i64 0,.int .i64 0,.bool false])∧Below w.heap.size w w':=by
 go_enter Tryz.func109,Tryz.ntmps109;go_wp2_with fail
 go_ret3
 exact⟨rfl,Below.refl _ _⟩
def Nums3(w:World)(b:Nat)(l:List Int):Prop:=w.heap[b]? = some (.cells (l.map (Value.int .i64)).toArray 3 (0,0))
theorem kn_abs(i:Int)(w:World):Calls Tryz.prog 112 #[.string ⟨#[97,98,115]⟩,.int .i64 i] w fun e w'=>e = .returned (.slice (some ⟨w.heap.size,0,none⟩) 1 1)∧Nums3 w' w.heap.size [2]∧Below w.heap.size w w':=by
 have HN:Hid (Nums3 (w.alloc (.cells #[.int .i64 2] 3)) w.heap.size [2]):=Hi (heap_alloc_new w _);have HB:=Hi (oneA w (.cells #[.int .i64 2] 3));go_enter Tryz.func112,Tryz.ntmps112;go_wp2_with fail
 go_ret
 exact⟨rfl,HN.out,HB.out⟩
theorem kn_sign(i:Int)(w:World):Calls Tryz.prog 112 #[.string ⟨#[115,105,103,110]⟩,.int .i64 i] w fun e w'=>e = .returned (.slice (some ⟨w.heap.size,0,none⟩) 1 1)∧Nums3 w' w.heap.size [2]∧Below w.heap.size w w':=by
 have HN:Hid (Nums3 (w.alloc (.cells #[.int .i64 2] 3)) w.heap.size [2]):=Hi (heap_alloc_new w _);have HB:=Hi (oneA w (.cells #[.int .i64 2] 3));go_enter Tryz.func112,Tryz.ntmps112;go_wp2_with fail
 go_ret
 exact⟨rfl,HN.out,HB.out⟩
theorem kn_length(i:Int)(w:World):Calls Tryz.prog 112 #[.string ⟨#[108,101,110,103,116,104]⟩,.int .i64 i] w fun e w'=>e = .returned (.slice (some ⟨w.heap.size,0,none⟩) 2 2)∧Nums3 w' w.heap.size [3,4]∧Below w.heap.size w w':=by
 have HN:Hid (Nums3 (w.alloc (.cells #[.int .i64 3,.int .i64 4] 3)) w.heap.size [3,4]):=Hi (heap_alloc_new w _);have HB:=Hi (oneA w (.cells #[.int .i64 3,.int .i64 4] 3));go_enter Tryz.func112,Tryz.ntmps112;go_wp2_with fail
 go_ret
 exact⟨rfl,HN.out,HB.out⟩
theorem kn_lower(i:Int)(w:World):Calls Tryz.prog 112 #[.string ⟨#[108,111,119,101,114]⟩,.int .i64 i] w fun e w'=>e = .returned (.slice (some ⟨w.heap.size,0,none⟩) 1 1)∧Nums3 w' w.heap.size [3]∧Below w.heap.size w w':=by
 have HN:Hid (Nums3 (w.alloc (.cells #[.int .i64 3] 3)) w.heap.size [3]):=Hi (heap_alloc_new w _);have HB:=Hi (oneA w (.cells #[.int .i64 3] 3));go_enter Tryz.func112,Tryz.ntmps112;go_wp2_with fail
 go_ret
 exact⟨rfl,HN.out,HB.out⟩
theorem kn_upper(i:Int)(w:World):Calls Tryz.prog 112 #[.string ⟨#[117,112,112,101,114]⟩,.int .i64 i] w fun e w'=>e = .returned (.slice (some ⟨w.heap.size,0,none⟩) 1 1)∧Nums3 w' w.heap.size [3]∧Below w.heap.size w w':=by
 have HN:Hid (Nums3 (w.alloc (.cells #[.int .i64 3] 3)) w.heap.size [3]):=Hi (heap_alloc_new w _);have HB:=Hi (oneA w (.cells #[.int .i64 3] 3));go_enter Tryz.func112,Tryz.ntmps112;go_wp2_with fail
 go_ret
 exact⟨rfl,HN.out,HB.out⟩
theorem kn_trim(i:Int)(w:World):Calls Tryz.prog 112 #[.string ⟨#[116,114,105,109]⟩,.int .i64 i] w fun e w'=>e = .returned (.slice (some ⟨w.heap.size,0,none⟩) 1 1)∧Nums3 w' w.heap.size [3]∧Below w.heap.size w w':=by
 have HN:Hid (Nums3 (w.alloc (.cells #[.int .i64 3] 3)) w.heap.size [3]):=Hi (heap_alloc_new w _);have HB:=Hi (oneA w (.cells #[.int .i64 3] 3));go_enter Tryz.func112,Tryz.ntmps112;go_wp2_with fail
 go_ret
 exact⟨rfl,HN.out,HB.out⟩
theorem kn_instr(i:Int)(w:World):Calls Tryz.prog 112 #[.string ⟨#[105,110,115,116,114]⟩,.int .i64 i] w fun e w'=>e = .returned (.slice (some ⟨w.heap.size,0,none⟩) 1 1)∧Nums3 w' w.heap.size [3]∧Below w.heap.size w w':=by
 have HN:Hid (Nums3 (w.alloc (.cells #[.int .i64 3] 3)) w.heap.size [3]):=Hi (heap_alloc_new w _);have HB:=Hi (oneA w (.cells #[.int .i64 3] 3));go_enter Tryz.func112,Tryz.ntmps112;go_wp2_with fail
 go_ret
 exact⟨rfl,HN.out,HB.out⟩
theorem kn_replace(i:Int)(w:World):Calls Tryz.prog 112 #[.string ⟨#[114,101,112,108,97,99,101]⟩,.int .i64 i] w fun e w'=>e = .returned (.slice (some ⟨w.heap.size,0,none⟩) 1 1)∧Nums3 w' w.heap.size [3]∧Below w.heap.size w w':=by
 have HN:Hid (Nums3 (w.alloc (.cells #[.int .i64 3] 3)) w.heap.size [3]):=Hi (heap_alloc_new w _);have HB:=Hi (oneA w (.cells #[.int .i64 3] 3));go_enter Tryz.func112,Tryz.ntmps112;go_wp2_with fail
 go_ret
 exact⟨rfl,HN.out,HB.out⟩
theorem kn_substr0(w:World):Calls Tryz.prog 112 #[.string ⟨#[115,117,98,115,116,114]⟩,.int .i64 0] w fun e w'=>e = .returned (.slice (some ⟨w.heap.size,0,none⟩) 2 2)∧Nums3 w' w.heap.size [3,4]∧Below w.heap.size w w':=by
 have HN:Hid (Nums3 (w.alloc (.cells #[.int .i64 3,.int .i64 4] 3)) w.heap.size [3,4]):=Hi (heap_alloc_new w _);have HB:=Hi (oneA w (.cells #[.int .i64 3,.int .i64 4] 3));go_enter Tryz.func112,Tryz.ntmps112;go_wp2_with fail
 go_ret
 exact⟨rfl,HN.out,HB.out⟩
theorem kn_substr1(w:World):Calls Tryz.prog 112 #[.string ⟨#[115,117,98,115,116,114]⟩,.int .i64 1] w fun e w'=>e = .returned (.slice (some ⟨w.heap.size,0,none⟩) 1 1)∧Nums3 w' w.heap.size [2]∧Below w.heap.size w w':=by
 have HN:Hid (Nums3 (w.alloc (.cells #[.int .i64 2] 3)) w.heap.size [2]):=Hi (heap_alloc_new w _);have HB:=Hi (oneA w (.cells #[.int .i64 2] 3));go_enter Tryz.func112,Tryz.ntmps112;go_wp2_with fail
 go_ret
 exact⟨rfl,HN.out,HB.out⟩
theorem kn_substr2(w:World):Calls Tryz.prog 112 #[.string ⟨#[115,117,98,115,116,114]⟩,.int .i64 2] w fun e w'=>e = .returned (.slice (some ⟨w.heap.size,0,none⟩) 1 1)∧Nums3 w' w.heap.size [2]∧Below w.heap.size w w':=by
 have HN:Hid (Nums3 (w.alloc (.cells #[.int .i64 2] 3)) w.heap.size [2]):=Hi (heap_alloc_new w _);have HB:=Hi (oneA w (.cells #[.int .i64 2] 3));go_enter Tryz.func112,Tryz.ntmps112;go_wp2_with fail
 go_ret
 exact⟨rfl,HN.out,HB.out⟩
theorem Nums3.cell{w:World}{b:Nat}{l:List Int}(h:Nums3 w b l)(j:Nat)(hj:j < l.length):w.cell? ⟨b,j,none⟩=some (.int .i64 l[j]):=by
 rw[Lib.cell_of_heap h]
 simp[hj]
theorem has_any(w:World)(b n c:Nat)(l:List Int)(x:Int)(h:Nums3 w b l)(hn:n=l.length)(hm:n≤1000):Calls Tryz.prog 111 #[.slice (some ⟨b,0,none⟩) n c,.int .i64 x] w fun e w'=>e = .returned (.bool (l.contains x))∧Below w.heap.size w w':=by
 have HC:=Hi (fun j (hj:j < l.length)=>h.cell j hj)
 have HN:=Hi hn;have H0:Hid (∀ j (hj:j < l.length),j < 0→l[j]≠x):=Hi fun j _ h=>absurd h (Nat.not_lt_zero _)
 have HB:Hid (Below w.heap.size w w):=Hi (Below.refl _ _);have HY:Hid (∀ k (hk:k < l.length),l[k]=x→l.contains x=true):=Hi fun k hk e=>by rw[List.contains_iff_mem,←e];exact List.getElem_mem hk
 have HO:Hid ((∀ j (hj:j < l.length),j < n→l[j]≠x)→l.contains x=false):=Hi fun h=>by
  rw[Bool.eq_false_iff,ne_eq,List.contains_iff_mem];intro hm;obtain⟨j,hj,e⟩:=List.getElem_of_mem hm;exact h j hj (by omega) e
 generalize l.contains x=R at *;clear h hn;go_enter Tryz.func111,Tryz.ntmps111;go_wp2_with fail
 go_loopw [9] (fun i wr=>∃ k:Nat,k≤n∧i = .int .i64 (k:Int)∧Hid (∀ j (hj:j < l.length),j < k→l[j]≠x)∧wr=w) (fun i _=>n - (intOf i).toNat)
 case atStart=>exact⟨0,Nat.zero_le _,rfl,H0,rfl⟩
 case round =>
  obtain⟨k,hk,rfl,HK,rfl⟩:=hrel
  by_cases hlt:k < n
  ·have hkl:k < l.length:=by have:=HN.out;omega
   have e1:=HC.out k hkl;have hkz:(k:Int) < (n:Int):=by omega
   by_cases hx:l[k]=x
   ·have hb:(l[k] == x)=true:=by simpa using hx
    have HF:=Hi (HY.out k hkl hx);generalize l[k]=y at *;clear hx;go_wp2_with fail
    go_ret
    exact⟨by rw[HF.out];rfl,HB.out⟩
   ·have hb:(l[k] == x)=false:=by simpa using hx
    have HK':Hid (∀ j (hj:j < l.length),j < k+1→l[j]≠x):=Hi fun j hj h=>by
     rcases Nat.lt_or_eq_of_le (Nat.le_of_lt_succ h)with h | h
     ·exact HK.out j hj h
     ·subst h;exact hx
    generalize l[k]=y at *;go_wp2_with fail
    go_roundw
    case rel=>exact⟨k+1,by omega,by go_num,HK',trivial⟩
    case measure=>simp[intOf];omega
  ·obtain rfl:n=k:=by omega
   have HF:=Hi (HO.out HK.out);go_wp2_with fail
   go_ret
   exact⟨by rw[HF.out];rfl,HB.out⟩
end Go.Proofs.YtcicpjgnpcnnmaaGreatDoor
