import Derived.Test.YtcicpjgnpcnnmaaGreatDoorQ10
set_option maxRecDepth 100000
set_option maxHeartbeats 16000000
namespace Go.Proofs.YtcicpjgnpcnnmaaGreatDoor
open Go.RowKit
def resV:Array Value:=#[.string ⟨#[97,108,108]⟩,.string ⟨#[97,110,100]⟩,.string ⟨#[97,115]⟩,.string ⟨#[97,115,99]⟩,.string ⟨#[98,101,103,105,110]⟩,.string ⟨#[98,101,116,119,101,101,110]⟩,.string ⟨#[98,108,111,98]⟩,.string ⟨#[98,111,111,108]⟩,.string ⟨#[98,121]⟩,.string ⟨#[99,97,115,101]⟩,.string ⟨#[99,111,109,109,105,116]⟩,.string ⟨#[99,114,101,97,116,101]⟩,.string ⟨#[99,114,111,115,115]⟩,.string ⟨#[100,101,108,101,116,101]⟩,.string ⟨#[100,101,115,99]⟩,.string ⟨#[100,105,115,116,105,110,99,116]⟩,.string ⟨#[100,114,111,112]⟩,.string ⟨#[101,120,99,101,112,116]⟩,.string ⟨#[101,120,105,115,116,115]⟩,.string ⟨#[102,97,108,115,101]⟩,.string ⟨#[102,114,111,109]⟩,.string ⟨#[102,117,108,108]⟩,.string ⟨#[103,114,111,117,112]⟩,.string ⟨#[104,97,118,105,110,103]⟩,.string ⟨#[105,110]⟩,.string ⟨#[105,110,100,101,120]⟩,.string ⟨#[105,110,110,101,114]⟩,.string ⟨#[105,110,115,101,114,116]⟩,.string ⟨#[105,110,116]⟩,.string ⟨#[105,110,116,101,114,115,101,99,116]⟩,.string ⟨#[105,110,116,111]⟩,.string ⟨#[105,115]⟩,.string ⟨#[106,111,105,110]⟩,.string ⟨#[107,101,121]⟩,.string ⟨#[108,101,102,116]⟩,.string ⟨#[108,105,107,101]⟩,.string ⟨#[108,105,109,105,116]⟩,.string ⟨#[110,111,116]⟩,.string ⟨#[110,117,108,108]⟩,.string ⟨#[111,102,102,115,101,116]⟩,.string ⟨#[111,110]⟩,.string ⟨#[111,114]⟩,.string ⟨#[111,114,100,101,114]⟩,.string ⟨#[111,117,116,101,114]⟩,.string ⟨#[112,114,105,109,97,114,121]⟩,.string ⟨#[114,105,103,104,116]⟩,.string ⟨#[114,111,108,108,98,97,99,107]⟩,.string ⟨#[115,101,108,101,99,116]⟩,.string ⟨#[115,101,116]⟩,.string ⟨#[116,97,98,108,101]⟩,.string ⟨#[116,101,120,116]⟩,.string ⟨#[116,114,117,101]⟩,.string ⟨#[117,110,105,111,110]⟩,.string ⟨#[117,110,105,113,117,101]⟩,.string ⟨#[117,112,100,97,116,101]⟩,.string ⟨#[117,115,105,110,103]⟩,.string ⟨#[118,97,108,117,101,115]⟩,.string ⟨#[119,104,101,114,101]⟩]
theorem resV_get(k:Nat)(h:k < resL.length):resV[k]? = some (.string (str resL[k])):=by
 match k,h with
 | 0,_=>rfl
 | 1,_=>rfl
 | 2,_=>rfl
 | 3,_=>rfl
 | 4,_=>rfl
 | 5,_=>rfl
 | 6,_=>rfl
 | 7,_=>rfl
 | 8,_=>rfl
 | 9,_=>rfl
 | 10,_=>rfl
 | 11,_=>rfl
 | 12,_=>rfl
 | 13,_=>rfl
 | 14,_=>rfl
 | 15,_=>rfl
 | 16,_=>rfl
 | 17,_=>rfl
 | 18,_=>rfl
 | 19,_=>rfl
 | 20,_=>rfl
 | 21,_=>rfl
 | 22,_=>rfl
 | 23,_=>rfl
 | 24,_=>rfl
 | 25,_=>rfl
 | 26,_=>rfl
 | 27,_=>rfl
 | 28,_=>rfl
 | 29,_=>rfl
 | 30,_=>rfl
 | 31,_=>rfl
 | 32,_=>rfl
 | 33,_=>rfl
 | 34,_=>rfl
 | 35,_=>rfl
 | 36,_=>rfl
 | 37,_=>rfl
 | 38,_=>rfl
 | 39,_=>rfl
 | 40,_=>rfl
 | 41,_=>rfl
 | 42,_=>rfl
 | 43,_=>rfl
 | 44,_=>rfl
 | 45,_=>rfl
 | 46,_=>rfl
 | 47,_=>rfl
 | 48,_=>rfl
 | 49,_=>rfl
 | 50,_=>rfl
 | 51,_=>rfl
 | 52,_=>rfl
 | 53,_=>rfl
 | 54,_=>rfl
 | 55,_=>rfl
 | 56,_=>rfl
 | 57,_=>rfl
 | k+58,h=>exact absurd h (by show ¬k+58 < 58;omega)
theorem resL_len:resL.length=58:=rfl
theorem res_cell(w:World)(k:Nat)(h:k < resL.length):(w.alloc (.cells resV 9)).cell? ⟨w.heap.size,k,none⟩=some (.string (str resL[k])):=by
 have hn:(w.alloc (.cells resV 9)).heap[w.heap.size]? = some (.cells resV 9 (0,0)):=heap_alloc_new w _;rw[Lib.cell_of_heap hn];exact resV_get k h
def NotYet(l:List UInt8)(j:Nat):Prop:=∀ i (h:i < resL.length),i < j→resL[i]≠l
theorem NotYet.yes{l:List UInt8}{j:Nat}(hj:j < resL.length)(h:resL[j]=l):resB l=true:=by
 unfold resB;rw[List.contains_iff_mem,←h];exact List.getElem_mem hj
theorem NotYet.next{l:List UInt8}{j:Nat}(h:NotYet l j)(hj:j < resL.length)(hp:resL[j]≠l):NotYet l (j+1):=fun i hi hlt=>by
 rcases Nat.lt_or_ge i j with h1 | h1
 ·exact h i hi h1
 ·have:i=j:=by omega
  subst this;exact hp
theorem NotYet.no{l:List UInt8}(h:NotYet l 58):resB l=false:=by
 rw[←Bool.not_eq_true];unfold resB;rw[List.contains_iff_mem];intro hm;obtain⟨i,hi,e⟩:=List.getElem_of_mem hm;exact h i hi (by rw[resL_len]at hi;exact hi) e
theorem rReserved_any(s:ByteArray)(w:World):Calls Tryz.prog 168 #[.string s] w fun e w'=>e = .returned (.bool (resB s.data.toList))∧Below w.heap.size w w':=by
 have HG:=Hi (res_cell w);have hb0:=(Below.refl w.heap.size w).alloc (Nat.le_refl _) (.cells resV 9);unfold resV at HG hb0;have HB:=Hi hb0;clear hb0;go_enter Tryz.func168,Tryz.ntmps168;go_wp2_with fail;generalize w.alloc (.cells #[.string ⟨#[97,108,108]⟩,.string ⟨#[97,110,100]⟩,.string ⟨#[97,115]⟩,.string ⟨#[97,115,99]⟩,.string ⟨#[98,101,103,105,110]⟩,.string ⟨#[98,101,116,119,101,101,110]⟩,.string ⟨#[98,108,111,98]⟩,.string ⟨#[98,111,111,108]⟩,.string ⟨#[98,121]⟩,.string ⟨#[99,97,115,101]⟩,.string ⟨#[99,111,109,109,105,116]⟩,.string ⟨#[99,114,101,97,116,101]⟩,.string ⟨#[99,114,111,115,115]⟩,.string ⟨#[100,101,108,101,116,101]⟩,.string ⟨#[100,101,115,99]⟩,.string ⟨#[100,105,115,116,105,110,99,116]⟩,.string ⟨#[100,114,111,112]⟩,.string ⟨#[101,120,99,101,112,116]⟩,.string ⟨#[101,120,105,115,116,115]⟩,.string ⟨#[102,97,108,115,101]⟩,.string ⟨#[102,114,111,109]⟩,.string ⟨#[102,117,108,108]⟩,.string ⟨#[103,114,111,117,112]⟩,.string ⟨#[104,97,118,105,110,103]⟩,.string ⟨#[105,110]⟩,.string ⟨#[105,110,100,101,120]⟩,.string ⟨#[105,110,110,101,114]⟩,.string ⟨#[105,110,115,101,114,116]⟩,.string ⟨#[105,110,116]⟩,.string ⟨#[105,110,116,101,114,115,101,99,116]⟩,.string ⟨#[105,110,116,111]⟩,.string ⟨#[105,115]⟩,.string ⟨#[106,111,105,110]⟩,.string ⟨#[107,101,121]⟩,.string ⟨#[108,101,102,116]⟩,.string ⟨#[108,105,107,101]⟩,.string ⟨#[108,105,109,105,116]⟩,.string ⟨#[110,111,116]⟩,.string ⟨#[110,117,108,108]⟩,.string ⟨#[111,102,102,115,101,116]⟩,.string ⟨#[111,110]⟩,.string ⟨#[111,114]⟩,.string ⟨#[111,114,100,101,114]⟩,.string ⟨#[111,117,116,101,114]⟩,.string ⟨#[112,114,105,109,97,114,121]⟩,.string ⟨#[114,105,103,104,116]⟩,.string ⟨#[114,111,108,108,98,97,99,107]⟩,.string ⟨#[115,101,108,101,99,116]⟩,.string ⟨#[115,101,116]⟩,.string ⟨#[116,97,98,108,101]⟩,.string ⟨#[116,101,120,116]⟩,.string ⟨#[116,114,117,101]⟩,.string ⟨#[117,110,105,111,110]⟩,.string ⟨#[117,110,105,113,117,101]⟩,.string ⟨#[117,112,100,97,116,101]⟩,.string ⟨#[117,115,105,110,103]⟩,.string ⟨#[118,97,108,117,101,115]⟩,.string ⟨#[119,104,101,114,101]⟩] 9)=W1 at *
 go_loopw [7] (fun i wr=>∃ k:Nat,k≤58∧i = .int .i64 k∧wr=W1∧Hid (NotYet s.data.toList k)) (fun i _=>58 - (intOf i).toNat)
 case atStart=>exact⟨0,by omega,rfl,rfl,fun i h hi=>by omega⟩
 case round =>
  obtain⟨k,hk,rfl,rfl,HN⟩:=hrel
  by_cases hlt:k < 58
  ·have hkl:k < resL.length:=hlt
   have hc:=HG.out k hkl;have HX:=Hi (fun h=>HN.out.next hkl h)
   have HY:=Hi (fun h=>NotYet.yes (l:=s.data.toList) hkl h)
   generalize resL[k]=x at *
   have HE:Hid (((str x).toList == s.toList)=true↔x=s.data.toList):=by
    show _↔_
    rw[beq_iff_eq,Lib.toList_data,Lib.toList_data,str_list]
   generalize str x=y at *;cases he:(y.toList == s.toList)
   ·have HX2:=Hi (HX.out (fun h=>by rw[HE.out.2 h]at he;cases he))
    clear HE;go_wp2_with fail
    go_roundw
    case measure=>simp[intOf];omega
    case rel=>exact⟨k+1,by omega,by go_num,trivial,HX2⟩
   ·have HY2:=Hi (HY.out (HE.out.1 he))
    clear HE;go_wp2_with fail
    go_ret
    exact⟨ret_bool HY2.out.symm,HB.out⟩
  ·have hkn:k=58:=by omega
   subst hkn;have HF:=Hi HN.out.no;go_wp2_with fail
   go_ret
   exact⟨ret_bool HF.out.symm,HB.out⟩
theorem name_no{l:List UInt8}{k:Nat}(hk:k < l.length)(h:(isWch l[k] && !isCap l[k])=false):nameB l=false:=by
 rw[←Bool.not_eq_true,name_iff];rintro⟨-,-,-,-,h5⟩;obtain⟨h6,h7⟩:=h5 l[k] (List.getElem_mem hk);rw[h6,h7]at h;cases h
theorem name_yes{l:List UInt8}(h0:l≠[])(h1:l.length≤32)(h2:headIs l isDig=false)(h3:resB l=false)(h:∀ i (hi:i < l.length),(isWch l[i] && !isCap l[i])=true):nameB l=true:=by
 rw[name_iff];refine⟨h0,h1,h2,h3,fun c hc => ?_⟩
 obtain⟨i,hi,rfl⟩:=List.getElem_of_mem hc;have:=h i hi;rw[Bool.and_eq_true,Bool.not_eq_true']at this;exact this
theorem rIsName_any(s:ByteArray)(w:World)(hs:s.size≤140737488355328):Calls Tryz.prog 135 #[.string s] w fun e w'=>e = .returned (.bool (nameB s.data.toList))∧Below w.heap.size w w':=by
 by_cases h0:s.size=0
 ·have he:s.data.toList = []:=List.eq_nil_of_length_eq_zero (by rw[size_list];exact h0)
  have hemp:s.toList.isEmpty=true:=by rw[Lib.toList_data,he];rfl
  rw[he,name_nil];go_enter Tryz.func135,Tryz.ntmps135;go_wp2_with fail
  go_ret
  exact⟨rfl,Below.refl _ _⟩
 ·have hpos:0 < s.size:=by omega
  have hcons:s.data.toList=s[0]::s.data.toList.drop 1:=by
   rw[←list_get hpos];exact List.drop_eq_getElem_cons (by rw[size_list];exact hpos)
  have hemp:s.toList.isEmpty=false:=by rw[Lib.toList_data,hcons];rfl
  by_cases h32:32 < s.size
  ·have hN:nameB s.data.toList=false:=by
    rw[←Bool.not_eq_true,name_iff,size_list];rintro⟨-,h,-⟩
    omega
   rw[hN];clear hcons hN;go_enter Tryz.func135,Tryz.ntmps135;go_wp2_with fail
   go_ret
   exact⟨rfl,Below.refl _ _⟩
  ·have HD:Hid (∀ w,Calls Tryz.prog 167 #[.int .u8 s[0].toNat] w fun e w'=>e = .returned (.bool (isDig s[0]))∧w'=w):=fun w=>digit_any s[0] w
   have hh:headIs s.data.toList isDig=isDig s[0]:=by rw[hcons];rfl
   cases hd:isDig s[0]
   ·rw[hd]at HD hh
    have HR:=Hi (fun w=>rReserved_any s w)
    cases hr:resB s.data.toList
    ·rw[hr]at HR
     have HY:Hid ((∀ i (hi:i < s.data.toList.length),(isWch s.data.toList[i] && !isCap s.data.toList[i])=true)→nameB s.data.toList=true):=fun h=>name_yes (by rw[hcons];simp) (by rw[size_list];omega) hh hr h
     clear hcons hh hd hr;go_enter Tryz.func135,Tryz.ntmps135;go_wp2_with fail;refine(HD.out _).mono ?_;rintro e w1 ⟨rfl,rfl⟩;go_wp2_with fail;refine(HR.out _).mono ?_;rintro e w2 ⟨rfl,b2⟩;go_wp2_with fail
     go_loopw [3] (fun i wr=>∃ k:Nat,k≤s.size∧i = .int .i64 k∧wr=w2∧Hid (∀ i (hi:i < s.data.toList.length),i < k→(isWch s.data.toList[i] && !isCap s.data.toList[i])=true)) (fun i _=>s.size - (intOf i).toNat)
     case atStart=>exact⟨0,Nat.zero_le _,rfl,rfl,fun i hi h=>by omega⟩
     case round =>
      obtain⟨k,hk,rfl,rfl,HK⟩:=hrel
      by_cases hlt:k < s.size
      ·have hkl:k < s.data.toList.length:=by rw[size_list];exact hlt
       have HT:Hid ((isWch s[k] && !isCap s[k])=true→∀ i (hi:i < s.data.toList.length),i < k+1→(isWch s.data.toList[i] && !isCap s.data.toList[i])=true):=fun h i hi hlt2=>by
        rcases Nat.lt_or_ge i k with h1 | h1
        ·exact HK.out i hi h1
        ·have:i=k:=by omega
         subst this;rw[list_get hlt];exact h
       have HF:Hid ((isWch s[k] && !isCap s[k])=false→nameB s.data.toList=false):=fun h=>name_no hkl (by rw[list_get hlt];exact h)
       have HL:=Hi (fun w=>letter_any s[k] w)
       have HG:=Hi (fun w=>digit_any s[k] w)
       have hc:=u8_lt s[k];rw[isLet_eq]at HL;rw[isDig_eq]at HG;unfold isWch at HT HF;rw[isLet_eq,isDig_eq,isCap_eq]at HT HF;clear HK;have hn:(65≤s[k].toNat∧s[k].toNat≤90)∨(s[k].toNat=95∨(97≤s[k].toNat∧s[k].toNat≤122))∨(48≤s[k].toNat∧s[k].toNat≤57)∨((s[k].toNat < 48∨(57 < s[k].toNat∧s[k].toNat < 65))∨(90 < s[k].toNat∧s[k].toNat < 95)∨s[k].toNat=96∨122 < s[k].toNat):=by omega
       rcases hn with hn | hn | hn | hn
       ·rw[decide_eq_true (by omega)]at HL
        have HN:=Hi (HF.out (by rw[decide_eq_true (by omega),decide_eq_true (show 65≤s[k].toNat∧s[k].toNat≤90 from hn)];rfl))
        have a0:(65:Int)≤(s[k].toNat:Int):=by omega
        have a1:(s[k].toNat:Int)≤90:=by omega
        clear HT HF HG hn;go_wp2_with fail;refine(HL.out _).mono ?_;rintro e w3 ⟨rfl,rfl⟩;go_wp2_with fail
        go_ret
        exact⟨ret_bool HN.out.symm,b2⟩
       ·rw[decide_eq_true (by omega)]at HL
        have HN:=Hi (HT.out (by rw[decide_eq_true (by omega),decide_eq_false (show ¬(65≤s[k].toNat∧s[k].toNat≤90) by omega)];rfl))
        have a0:(65:Int)≤(s[k].toNat:Int):=by omega
        have a1:(90:Int) < (s[k].toNat:Int):=by omega
        clear HT HF HG hn;go_wp2_with fail;refine(HL.out _).mono ?_;rintro e w3 ⟨rfl,rfl⟩;go_wp2_with fail
        go_roundw
        case measure=>simp[intOf];omega
        case rel=>exact⟨k+1,by omega,by go_num,trivial,HN⟩
       ·rw[decide_eq_false (by omega)]at HL
        rw[decide_eq_true (by omega)]at HG
        have HN:=Hi (HT.out (by rw[decide_eq_false (show ¬((97≤s[k].toNat∧s[k].toNat≤122)∨(65≤s[k].toNat∧s[k].toNat≤90)∨s[k].toNat=95) by omega),decide_eq_true (show 48≤s[k].toNat∧s[k].toNat≤57 from hn),decide_eq_false (show ¬(65≤s[k].toNat∧s[k].toNat≤90) by omega)];rfl))
        have a0:(s[k].toNat:Int) < 65:=by omega
        clear HT HF hn;go_wp2_with fail;refine(HL.out _).mono ?_;rintro e w3 ⟨rfl,rfl⟩;go_wp2_with fail;refine(HG.out _).mono ?_;rintro e w3 ⟨rfl,rfl⟩;go_wp2_with fail
        go_roundw
        case measure=>simp[intOf];omega
        case rel=>exact⟨k+1,by omega,by go_num,trivial,HN⟩
       ·rw[decide_eq_false (by omega)]at HL
        rw[decide_eq_false (by omega)]at HG
        have HN:=Hi (HF.out (by rw[decide_eq_false (show ¬((97≤s[k].toNat∧s[k].toNat≤122)∨(65≤s[k].toNat∧s[k].toNat≤90)∨s[k].toNat=95) by omega),decide_eq_false (show ¬(48≤s[k].toNat∧s[k].toNat≤57) by omega)];rfl))
        clear HT HF hn;go_wp2_with fail;refine(HL.out _).mono ?_;rintro e w3 ⟨rfl,rfl⟩;go_wp2_with fail;refine(HG.out _).mono ?_;rintro e w3 ⟨rfl,rfl⟩;go_wp2_with fail
        go_ret
        exact⟨ret_bool HN.out.symm,b2⟩
      ·have hkn:k=s.size:=by omega
       subst hkn;have HN:=Hi (HY.out (fun i hi=>HK.out i hi (by rw[size_list]at hi;exact hi)))
       clear HK;go_wp2_with fail
       go_ret
       exact⟨ret_bool HN.out.symm,b2⟩
    ·rw[hr]at HR
     have hN:nameB s.data.toList=false:=by
      rw[←Bool.not_eq_true,name_iff];rintro⟨-,-,-,h,-⟩;rw[h]at hr;cases hr
     rw[hN];clear hcons hh hd hr hN;go_enter Tryz.func135,Tryz.ntmps135;go_wp2_with fail;refine(HD.out _).mono ?_;rintro e w1 ⟨rfl,rfl⟩;go_wp2_with fail;refine(HR.out _).mono ?_;rintro e w2 ⟨rfl,b2⟩;go_wp2_with fail
     go_ret
     exact⟨rfl,b2⟩
   ·rw[hd]at HD hh
    have hN:nameB s.data.toList=false:=by
     rw[←Bool.not_eq_true,name_iff];rintro⟨-,-,h,-⟩;rw[h]at hh;cases hh
    rw[hN];clear hcons hh hd hN;go_enter Tryz.func135,Tryz.ntmps135;go_wp2_with fail;refine(HD.out _).mono ?_;rintro e w1 ⟨rfl,rfl⟩;go_wp2_with fail
    go_ret
    exact⟨rfl,Below.refl _ _⟩
theorem mat_get{w:World}{g:Nat}{ms:List (List UInt8)}(h:MAt w g (ms.map str))(j:Nat)(hj:j < ms.length):w.cell? ⟨g,j,none⟩=some (.string (str ms[j])):=by
 have:=h.2 j (by simpa using hj)
 rw[List.getElem_map]at this;exact this
theorem rIn_any(s:List UInt8)(ms:List (List UInt8))(w:World)(g:Nat)(hM:MAt w g (ms.map str))(hl:ms.length≤100) :
  Calls Tryz.prog 43 #[.string (str s),.slice (some ⟨g,0,none⟩) ms.length ms.length] w fun r w'=>r = .returned (.bool (decide (s∈ms)))∧Below w.heap.size w w':=by
 have HM:=Hi (fun j hj=>mat_get hM j hj)
 have HL:Hid (∀ j (hj:j < ms.length),s∈ms.drop j↔s=ms[j]∨s∈ms.drop (j+1)):=fun j hj=>by rw[List.drop_eq_getElem_cons hj,List.mem_cons]
 have HE:Hid (∀ j (hj:j < ms.length),((str s).toList == (str ms[j]).toList)=(s == ms[j])):=fun j hj=>str_beq _ _
 have hg:=hM.1;generalize hbb:decide (s∈ms)=bb;have HBB:Hid (bb=true↔s∈ms):=Hi (by rw[←hbb];simp)
 clear hM hbb;go_enter Tryz.func43,Tryz.ntmps43;go_wp2_with fail
 go_loopw [9] (fun iv wr=>∃ j:Nat,j≤ms.length∧iv = .int .i64 j∧Hid (s∈ms↔s∈ms.drop j)∧Hid (Below w.heap.size w wr)) (fun iv _=>ms.length - (intOf iv).toNat)
 case atStart=>exact⟨0,by omega,rfl,(by rw[List.drop_zero]:s∈ms↔s∈ms.drop 0),Below.refl _ _⟩
 case round =>
  obtain⟨j,hj,rfl,HK,HB⟩:=hrel
  by_cases hlt:j < ms.length
  ·have hjz:(j:Int) < (ms.length:Int):=by omega
   have c0:=(HB.out.cell (p:=⟨g,j,none⟩) hg).trans (HM.out j hlt);have he:=HE.out j hlt;have hk:=HL.out j hlt;have HH:=Hi hk;clear hk
   by_cases hq:s=ms[j]
   ·have hin:s∈ms:=HK.out.2 (HH.out.2 (.inl hq))
    rw[←hq]at c0;have h1:((str s).toList == (str s).toList)=true:=by simp
    obtain rfl:=HBB.out.2 hin;clear he HH HK HM HL HE hq hin;go_wp2_with fail
    go_ret
    exact⟨rfl,HB.out⟩
   ·have hqf:(s == ms[j])=false:=by simpa using hq
    rw[hqf]at he;have HK2:Hid (s∈ms↔s∈ms.drop (j+1)):=HK.out.trans (HH.out.trans ⟨fun h=>h.resolve_left hq,.inr⟩)
    generalize str ms[j]=mj at *;clear HH HK HM HL HE hq hqf;go_wp2_with fail
    go_roundw
    case measure=>simp[intOf];omega
    case rel=>exact⟨j+1,by omega,by go_num,HK2,HB⟩
  ·have hje:j=ms.length:=by omega
   have hjz:¬(j:Int) < (ms.length:Int):=by omega
   have hin:¬s∈ms:=fun h=>by
    have:=HK.out.1 h;rw[hje,List.drop_length]at this;cases this
   obtain rfl:bb=false:=by rw[←Bool.not_eq_true];exact fun h=>hin (HBB.out.1 h)
   clear HK HM HL HE hin;go_wp2_with fail
   go_ret
   exact⟨rfl,HB.out⟩
theorem in_at(s:List UInt8)(ms:List (List UInt8))(w:World)(hl:ms.length≤100) :
  Calls Tryz.prog 43 #[.string (str s),.slice (some ⟨w.heap.size,0,none⟩) ms.length ms.length] (w.alloc (.cells (ms.map fun m=>Value.string (str m)).toArray 9)) fun r w'=>r = .returned (.bool (decide (s∈ms)))∧Below w.heap.size w w':=by
 have hb:=heap_alloc_new w (.cells (ms.map fun m=>Value.string (str m)).toArray 9)
 refine(rIn_any s ms _ w.heap.size ⟨by simp,fun j hj => ?_⟩ hl).mono ?_
 ·rw[Lib.cell_of_heap hb]
  rw[List.length_map]at hj
  simp[hj]
 ·rintro r w' ⟨rfl,h⟩
  exact⟨rfl,bthen ((Below.refl w.heap.size w).alloc (Nat.le_refl _) _) h⟩
def lsSigns:List (List UInt8):=[[43],[45],[42],[47],[37],[124,124]]
def lsRels:List (List UInt8):=[[61],[60,62],[60],[60,61],[62],[62,61]]
theorem rSigns(s:List UInt8)(w:World):Calls Tryz.prog 166 #[.string (str s)] w fun r w'=>r = .returned (.bool (decide (s∈lsSigns)))∧Below w.heap.size w w':=by
 have HI:=Hi (in_at s lsSigns w (by decide))
 generalize decide (s∈lsSigns)=b at *;generalize str s=x at *;simp only[lsSigns,List.map_cons,List.map_nil,str]at HI;go_enter Tryz.func166,Tryz.ntmps166;go_wp2_with fail;refine(HI.out).mono ?_;rintro r w' ⟨rfl,h⟩;go_wp2_with fail
 go_ret
 exact⟨rfl,h⟩
theorem rRels(s:List UInt8)(w:World):Calls Tryz.prog 118 #[.string (str s)] w fun r w'=>r = .returned (.bool (decide (s∈lsRels)))∧Below w.heap.size w w':=by
 have HI:=Hi (in_at s lsRels w (by decide))
 generalize decide (s∈lsRels)=b at *;generalize str s=x at *;simp only[lsRels,List.map_cons,List.map_nil,str]at HI;go_enter Tryz.func118,Tryz.ntmps118;go_wp2_with fail;refine(HI.out).mono ?_;rintro r w' ⟨rfl,h⟩;go_wp2_with fail
 go_ret
 exact⟨rfl,h⟩
def rparts(o:List UInt8)(n:Nat):Bool :=
 if o∈[wLit,wCol,wStar]then n == 0 else if o∈ops1 then n == 1
 else if(o∈[wAnd,wOr,wLike]∨o∈lsSigns)∨o∈lsRels then n == 2
 else if o=wBetween then n == 3 else if o=wIn then decide (2≤n)else o == wCall
theorem rParts(e:E)(x:Value)(S:Nat→Prop)(w:World)(hx:EAt S w e x):Calls Tryz.prog 134 #[x] w fun r w'=>r = .returned (.bool (rparts e.op e.l.length))∧Below w.heap.size w w':=by
 obtain⟨A,c,rfl,hs⟩:=hx;obtain⟨h1,h2,-⟩:=Sub.eq.1 hs;have hm:e.l.length≤9223372036854775807:=Nat.le_trans h1 h2;obtain⟨W1,hW1,q1,z1,r1⟩:=box7 w (.string (str e.op)) (.int .i64 e.v.k) (.int .i64 e.v.i) (.string (str e.v.s)) (.string (str e.tb)) (.string (str e.nm)) (.slice A e.l.length c);have HI1:=Hi (fun W=>in_at e.op [wLit,wCol,wStar] W (by decide))
 have HI2:=Hi (fun W=>in_at e.op ops1 W (by decide))
 have HI3:=Hi (fun W=>in_at e.op [wAnd,wOr,wLike] W (by decide))
 have HS:=Hi (fun W=>rSigns e.op W)
 have HR:=Hi (fun W=>rRels e.op W)
 have e1:((str e.op).toList == [98,101,116,119,101,101,110])=(e.op == wBetween):=by rw[Lib.toList_data,str_list];rfl
 have e2:((str e.op).toList == [105,110])=(e.op == wIn):=by rw[Lib.toList_data,str_list];rfl
 have e3:((str e.op).toList == [99,97,108,108])=(e.op == wCall):=by rw[Lib.toList_data,str_list];rfl
 have hp:rparts e.op e.l.length=(if decide (e.op∈[wLit,wCol,wStar])then e.l.length == 0 else if decide (e.op∈ops1)then e.l.length == 1
  else if(decide (e.op∈[wAnd,wOr,wLike]) || decide (e.op∈lsSigns)) || decide (e.op∈lsRels)then e.l.length == 2
  else if e.op == wBetween then e.l.length == 3 else if e.op == wIn then decide (2≤e.l.length)else e.op == wCall):=by
  unfold rparts;simp only[Bool.or_eq_true,decide_eq_true_eq,beq_iff_eq]
 rw[hp];clear hp;unfold eVal;generalize decide (e.op∈[wLit,wCol,wStar])=p1 at *;generalize decide (e.op∈ops1)=p2 at *;generalize decide (e.op∈[wAnd,wOr,wLike])=p3 at *;generalize decide (e.op∈lsSigns)=p4 at *;generalize decide (e.op∈lsRels)=p5 at *;generalize (e.op == wBetween)=p6 at *;generalize (e.op == wIn)=p7 at *;generalize (e.op == wCall)=p8 at *;generalize str e.op=bo at *;generalize str e.tb=bt at *;generalize str e.nm=bn at *;generalize str e.v.s=bs at *;generalize e.v.k=vk at *;generalize e.v.i=vi at *;generalize e.l.length=ln at *;simp only[ops1,wLit,wCol,wStar,wAnd,wOr,wLike,wNeg,wNot,wIsnull,wNotnull,List.map_cons,List.map_nil,str]at HI1 HI2 HI3;have HW1:=Hi hW1;have HB1:=Hi r1;have HQ:=Hi q1;obtain⟨a0,a1,a2,a3,a4,a5,a6⟩:=q1.cells;clear hW1 r1 q1 hs h1 h2 z1;go_enter Tryz.func134,Tryz.ntmps134
 go_wp2_with (rw[←HW1.out])
 refine(HI1.out _).mono ?_;rintro r w2 ⟨rfl,b2⟩;have HB2:=Hi (bthen HB1.out b2);have q2:=HQ.out.later b2;have HQ2:=Hi q2;obtain⟨a0,a1,a2,a3,a4,a5,a6⟩:=q2.cells;clear b2 q2 HQ HI1 HB1;cases p1
 ·go_wp2_with fail
  refine(HI2.out _).mono ?_;rintro r w3 ⟨rfl,b3⟩;have HB3:=Hi (bthen HB2.out b3);have q3:=HQ2.out.later b3;have HQ3:=Hi q3;obtain⟨a0,a1,a2,a3,a4,a5,a6⟩:=q3.cells;clear b3 q3 HQ2 HI2 HB2;cases p2
  ·go_wp2_with fail
   refine(HI3.out _).mono ?_;rintro r w4 ⟨rfl,b4⟩;have HB4:=Hi (bthen HB3.out b4);have q4:=HQ3.out.later b4;have HQ4:=Hi q4;obtain⟨a0,a1,a2,a3,a4,a5,a6⟩:=q4.cells;clear b4 q4 HQ3 HI3 HB3;cases p3
   ·go_wp2_with fail
    refine(HS.out _).mono ?_;rintro r w5 ⟨rfl,b5⟩;have HB5:=Hi (bthen HB4.out b5);have q5:=HQ4.out.later b5;have HQ5:=Hi q5;obtain⟨a0,a1,a2,a3,a4,a5,a6⟩:=q5.cells;clear b5 q5 HQ4 HS HB4;cases p4
    ·go_wp2_with fail
     refine(HR.out _).mono ?_;rintro r w6 ⟨rfl,b6⟩;have HB6:=Hi (bthen HB5.out b6);obtain⟨a0,a1,a2,a3,a4,a5,a6⟩:=(HQ5.out.later b6).cells;clear b6 HQ5 HR HB5;cases p5
     ·cases p6
      ·cases p7
       ·go_wp2_with fail
        go_ret
        exact⟨by simp,HB6.out⟩
       ·go_wp2_with fail
        go_ret
        refine⟨ret_bool (bool_iff ?_),HB6.out⟩
        simp <;> omega
      ·go_wp2_with fail
       go_ret
       refine⟨ret_bool (bool_iff ?_),HB6.out⟩
       simp <;> omega
     ·go_wp2_with fail
      go_ret
      refine⟨ret_bool (bool_iff ?_),HB6.out⟩
      simp <;> omega
    ·go_wp2_with fail
     go_ret
     refine⟨ret_bool (bool_iff ?_),HB5.out⟩
     simp <;> omega
   ·go_wp2_with fail
    go_ret
    refine⟨ret_bool (bool_iff ?_),HB4.out⟩
    simp <;> omega
  ·go_wp2_with fail
   go_ret
   refine⟨ret_bool (bool_iff ?_),HB3.out⟩
   simp <;> omega
 ·go_wp2_with fail
  go_ret
  refine⟨ret_bool (bool_iff ?_),HB2.out⟩
  simp <;> omega
theorem rDeep_any(e:E):∀ (x:Value)(S:Nat→Prop)(w:World),EAt S w e x→e.deep≤1000000→Calls Tryz.prog 82 #[x] w fun r w'=>r = .returned (.int .i64 e.deep)∧Below w.heap.size w w':=by
 induction e using E.ind with
 | h o v t n l ih =>
  rintro x S w ⟨A,c,rfl,hsub⟩ hd;obtain⟨hlc,hcm,hmem⟩:=hsub;have hm:l.length≤9223372036854775807:=Nat.le_trans hlc hcm;have hdl:E.deepL l+1≤1000000:=hd;have HI:=Hi (fun(k:Nat) (hk:k < l.length) (x:Value) (S:Nat→Prop) (w:World) (hx:EAt S w l[k] x)=>ih l[k] (List.getElem_mem hk) x S w hx (by have:=deepL_le l k hk;omega))
  simp only[E.op,E.v,E.tb,E.nm,E.l,eVal,E.deep];generalize str o=bo at *;generalize str t=bt at *;generalize str n=bn at *;generalize str v.s=bs at *;generalize v.k=vk at *;generalize v.i=vi at *;have hb0:=(Below.refl w.heap.size w).alloc (Nat.le_refl _) (.cells #[.string bo,.int .i64 vk,.int .i64 vi,.string bs,.string bt,.string bn,.slice A l.length c] 29);have hbx:=(B7.made w (.string bo) (.int .i64 vk) (.int .i64 vi) (.string bs) (.string bt) (.string bn) (.slice A l.length c)).cells;obtain⟨x0,x1,x2,x3,x4,x5,x6⟩:=hbx;have HM:=Hi hmem;have HB0:=Hi hb0;clear ih hmem hd hlc hcm hb0;go_enter Tryz.func82,Tryz.ntmps82;go_wp2_with fail;clear x0 x1 x2 x3 x4 x5 x6
  go_loopw [9,3] (fun iv dv wr=>∃ k:Nat,k≤l.length∧iv = .int .i64 k∧dv = .int .i64 (E.deepL (l.take k):Nat)∧Hid (Below w.heap.size w wr)) (fun iv _ _=>l.length - (intOf iv).toNat)
  case atStart=>exact⟨0,Nat.zero_le _,rfl,rfl,HB0.out⟩
  case round =>
   obtain⟨k,hk,rfl,rfl,HB⟩:=hrel
   by_cases hlt:k < l.length
   ·obtain⟨g,off,rfl,hS,hg,hl⟩:=HM.out (by omega)
    obtain⟨A',c',⟨g0,g1,g2,g3,g4,g5,g6⟩,hs⟩:=hl.get k hlt;have hkz:(k:Int) < (l.length:Int):=by omega
    have z:=HB.out.size;have i0:=(HB.out.cell (p:=⟨g,off+k*7,none⟩) hg).trans g0;have i1:=(HB.out.cell (p:=⟨g,off+k*7+1,none⟩) hg).trans g1;have i2:=(HB.out.cell (p:=⟨g,off+k*7+2,none⟩) hg).trans g2;have i3:=(HB.out.cell (p:=⟨g,off+k*7+3,none⟩) hg).trans g3;have i4:=(HB.out.cell (p:=⟨g,off+k*7+4,none⟩) hg).trans g4;have i5:=(HB.out.cell (p:=⟨g,off+k*7+5,none⟩) hg).trans g5;have i6:=(HB.out.cell (p:=⟨g,off+k*7+6,none⟩) hg).trans g6;obtain⟨W1,W,hW1,hW,b1,b2,hz,hb1,hb2⟩:=made7 wr (.string (str l[k].op)) (.int .i64 l[k].v.k) (.int .i64 l[k].v.i) (.string (str l[k].v.s)) (.string (str l[k].tb)) (.string (str l[k].nm)) (.slice A' l[k].l.length c');have f1:=b1.free;have y1:=b2.cells;obtain⟨p10,p11,p12,p13,p14,p15,p16⟩:=b1.cells
    have hE:EAt S W l[k] (eVal l[k].op l[k].v l[k].tb l[k].nm (.slice A' l[k].l.length c')):=by
     have h0:EAt S w l[k] (eVal l[k].op l[k].v l[k].tb l[k].nm (.slice A' l[k].l.length c')):=⟨A',c',rfl,hs⟩;exact(h0.later HB.out).later hb2
    have HC:=Hi (HI.out k hlt _ S W hE);have hdk:=deepL_take l k hlt;have hdk2:=deepL_le l k hlt;have HB2:=Hi (bthen HB.out hb2);have HW1:=Hi hW1;have HW:=Hi hW;obtain⟨f10,f11,f12,f13,f14,f15,f16⟩:=f1;obtain⟨y10,y11,y12,y13,y14,y15,y16⟩:=y1;unfold eVal at HC;generalize str l[k].op=bo' at *;generalize str l[k].tb=bt' at *;generalize str l[k].nm=bn' at *;generalize str l[k].v.s=bs' at *;generalize l[k].v.k=vk' at *;generalize l[k].v.i=vi' at *;generalize l[k].l.length=ln' at *;generalize hdp:l[k].deep=dp at *
    have htk:E.deepL (l.take k)≤1000000:=by
     have:E.deepL l=max (E.deepL (l.take k)) (E.deepL (l.drop k)):=by rw[←deepL_append,List.take_append_drop]
     omega
    have HDK:Hid (E.deepL (l.take (k+1))=max (E.deepL (l.take k)) dp):=hdk;generalize E.deepL (l.take k)=dt at *;clear hW1 hW hs hl hE g0 g1 g2 g3 g4 g5 g6 b1 b2 hb1 hb2 HB HI HM HB0 hdp hdk
    go_wp2_with (first | (rw[←HW.out]) | (rw[←HW1.out]))
    refine(HC.out).mono ?_;rintro e w3 ⟨rfl,b3⟩;go_wp2_with fail
    go_roundw
    case measure=>simp[intOf];omega
    case rel=>exact⟨k+1,by omega,by go_num,by rw[HDK.out];go_num,bthen HB2.out b3⟩
   ·have hke:k=l.length:=by omega
    have hkz:¬(k:Int) < (l.length:Int):=by omega
    subst hke;rw[List.take_length];clear HM HI HB0;go_wp2_with fail
    go_ret
    exact⟨by go_num,HB.out⟩
def starIn(n:List UInt8)(l:List E):Bool:=n == wCount && (l.length == 1 && (l.headD e0).op == wStar)
theorem star_may{x:E}(h:x.op=wStar):x.may=false:=by
 obtain⟨o,v,t,n,l⟩:=x;simp only[E.op]at h;subst h;rw[E.may,if_neg (by decide),if_neg (by decide),if_neg (by decide)]
 have h1:least wStar=1:=by decide
 have h2:most wStar=0:=by decide
 rw[h1,h2]
 by_cases h3:1≤l.length
 ·rw[decide_eq_false (show ¬l.length≤0 by omega)];simp
 ·rw[decide_eq_false h3];simp
theorem star_same{x:E}(h:x.op≠wStar):x.same star=false:=by
 rw[←Bool.not_eq_true];intro hh;have:=same_eq hh;rw[this]at h;exact h rfl
theorem counts_eq(n:List UInt8)(l:List E):(countsL n l || E.mayL l)=if starIn n l then (l.headD e0).same star else E.mayL l:=by
 unfold starIn countsL;rcases l with _ | ⟨x,_ | ⟨y,l⟩⟩
 ·simp[oneStar]
 ·by_cases hn:n=wCount
  ·subst hn
   by_cases hx:x.op=wStar
   ·simp[oneStar,hx,E.mayL,star_may hx]
   ·simp[oneStar,hx,star_same hx]
  ·simp[hn]
 ·simp[oneStar]
theorem two_ops(o:List UInt8):((o∈[wAnd,wOr,wLike]∨o∈lsSigns)∨o∈lsRels)↔o∈ops2:=by
 simp only[lsSigns,lsRels,ops2,List.mem_cons,List.not_mem_nil,or_false]
 constructor
 ·rintro(((h | h | h) | (h | h | h | h | h | h)) | (h | h | h | h | h | h)) <;> (subst h;decide)
 ·rintro(h | h | h | h | h | h | h | h | h | h | h | h | h | h | h) <;> (subst h;decide)
theorem rparts_eq(o:List UInt8)(n:Nat):rparts o n=if o∈[wLit,wCol,wStar]then n == 0 else if o=wCall then true else decide (least o≤n) && (decide (n≤most o) || decide (o=wIn)):=by
 unfold rparts
 by_cases h0:o∈[wLit,wCol,wStar]
 ·rw[if_pos h0,if_pos h0]
 rw[if_neg h0,if_neg h0]
 by_cases hc:o=wCall
 ·subst hc
  rw[if_pos rfl,if_neg (by decide),if_neg (by decide),if_neg (by decide),if_neg (by decide)]
  rfl
 rw[if_neg hc];simp only[two_ops];unfold least most
 by_cases h1:o∈ops1
 ·have hi:o≠wIn:=by rintro rfl;revert h1;decide
  simp only[if_pos h1,hi,decide_false,Bool.or_false]
  apply bool_iff;simp;omega
 simp only[if_neg h1]
 by_cases h2:o∈ops2
 ·have hi:o≠wIn:=by rintro rfl;revert h2;decide
  simp only[if_pos h2,hi,decide_false,Bool.or_false]
  apply bool_iff;simp;omega
 simp only[if_neg h2]
 by_cases h3:o=wBetween
 ·have hi:o≠wIn:=by rintro rfl;revert h3;decide
  simp only[if_pos h3,hi,decide_false,Bool.or_false]
  apply bool_iff;simp;omega
 simp only[if_neg h3]
 by_cases h4:o=wIn
 ·simp[h4]
 ·simp only[decide_false,Bool.or_false,h4]
  have:(o == wCall)=false:=by simpa using hc
  rw[this]
  apply bool_iff;simp;omega
def rmayB(pr pL pC pS pA pv pt pn vm nb tb si ss ml:Bool):Bool :=
 if(!pr || (!pL && !pv)) || (!pC && !pt)then false
 else if pL then vm && pn
 else if pC then nb && (pt || tb)
 else if pS then false
 else if pA then (if nb then (if si then ss else ml)else false)
 else if pn then ml else false
theorem rmay_eq(o:List UInt8)(v:Vl)(t n:List UInt8)(l:List E)(hl:l.length≤9223372036854775807):(E.mk o v t n l).may=rmayB (rparts o l.length) (o == wLit) (o == wCol) (o == wStar) (o == wCall) (v == v0) (t == []) (n == []) v.may (nameB n) (nameB t) (starIn n l) ((l.headD e0).same star) (E.mayL l):=by
 rw[rparts_eq]
 by_cases h1:o=wLit
 ·subst h1
  rw[E.may,if_pos rfl,if_pos (by decide)]
  have e:(l.length == 0)=l.isEmpty:=by cases l <;> rfl
  rw[e];simp only[rmayB,beq_self_eq_true,Bool.not_true,Bool.false_and,Bool.or_false,show(wLit == wCol)=false from rfl,Bool.not_false,Bool.true_and]
  cases (t == []) <;> cases (n == []) <;> cases l.isEmpty <;> cases v.may <;> rfl
 by_cases h2:o=wCol
 ·subst h2
  rw[E.may,if_neg (by decide),if_pos rfl,if_pos (by decide)]
  have e:(l.length == 0)=l.isEmpty:=by cases l <;> rfl
  rw[e];simp only[rmayB,beq_self_eq_true,Bool.not_true,Bool.false_and,Bool.or_false,show(wCol == wLit)=false from rfl,Bool.not_false,Bool.true_and]
  cases (v == v0) <;> cases l.isEmpty <;> cases nameB n <;> cases (t == []) <;> cases nameB t <;> rfl
 by_cases h3:o=wStar
 ·subst h3
  rw[show(E.mk wStar v t n l).may=false from star_may rfl]
  simp only[rmayB,beq_self_eq_true,show(wStar == wLit)=false from rfl,show(wStar == wCol)=false from rfl]
  generalize (if wStar∈[wLit,wCol,wStar]then l.length == 0 else _)=p
  cases p <;> cases (v == v0) <;> cases (t == []) <;> rfl
 by_cases h4:o=wCall
 ·subst h4
  rw[E.may,if_neg (by decide),if_neg (by decide),if_pos rfl,if_neg (by decide),if_pos rfl,counts_eq]
  simp only[rmayB,beq_self_eq_true,show(wCall == wLit)=false from rfl,show(wCall == wCol)=false from rfl,show(wCall == wStar)=false from rfl]
  generalize (if starIn n l=true then _ else _)=q
  cases (v == v0) <;> cases (t == []) <;> cases nameB n <;> cases q <;> rfl
 have f1:(o == wLit)=false:=by simpa using h1
 have f2:(o == wCol)=false:=by simpa using h2
 have f3:(o == wStar)=false:=by simpa using h3
 have f4:(o == wCall)=false:=by simpa using h4
 rw[E.may,if_neg h1,if_neg h2,if_neg h4,f1,f2,f3,f4,if_neg (by simp[h1,h2,h3]),if_neg h4]
 have hmo:(decide (l.length≤most o) || decide (o=wIn))=decide (l.length≤most o):=by
  by_cases hi:o=wIn
  ·subst hi
   have:most wIn=9223372036854775807:=by decide
   rw[this,decide_eq_true hl];rfl
  ·simp[hi]
 rw[hmo];simp only[rmayB];cases (v == v0) <;> cases (t == []) <;> cases (n == []) <;> cases decide (least o≤l.length) <;> cases decide (l.length≤most o) <;> cases E.mayL l <;> rfl
theorem op_five(o:List UInt8):((o == wLit)=true∧(o == wCol)=false∧(o == wStar)=false∧(o == wCall)=false)∨((o == wLit)=false∧(o == wCol)=true∧(o == wStar)=false∧(o == wCall)=false) ∨
  ((o == wLit)=false∧(o == wCol)=false∧(o == wStar)=true∧(o == wCall)=false)∨((o == wLit)=false∧(o == wCol)=false∧(o == wStar)=false∧(o == wCall)=true) ∨
  ((o == wLit)=false∧(o == wCol)=false∧(o == wStar)=false∧(o == wCall)=false):=by
 by_cases h1:o=wLit
 ·subst h1;decide
 by_cases h2:o=wCol
 ·subst h2;decide
 by_cases h3:o=wStar
 ·subst h3;decide
 by_cases h4:o=wCall
 ·subst h4;decide
 simp[h1,h2,h3,h4]
theorem sub_nilx(S:Nat→Prop)(w:World)(o:List UInt8)(v:Vl)(t n:List UInt8):Sub S w (.mk o v t n []) none 0:=by simp[Sub]
theorem rMay_any(e:E):∀ (x:Value)(S:Nat→Prop)(w:World),EAt S w e x→e.sn=true→Calls Tryz.prog 81 #[x] w fun r w'=>r = .returned (.bool e.may)∧Below w.heap.size w w':=by
 induction e using E.ind with
 | h o v t n l ih =>
  rintro x S w hx hsn;have HP0:=fun W (hb:Below w.heap.size w W)=>rParts _ x S W (hx.later hb)
  obtain⟨A,c,rfl,hsub⟩:=hx;obtain⟨hlc,hcm,hmem⟩:=hsub;have hm:l.length≤9223372036854775807:=Nat.le_trans hlc hcm;simp only[E.sn,Bool.and_eq_true,decide_eq_true_eq]at hsn;obtain⟨⟨ht,hn⟩,hl⟩:=hsn;have HI:=Hi (fun(k:Nat) (hk:k < l.length) (x:Value) (w:World) (hx:EAt S w l[k] x)=>ih l[k] (List.getElem_mem hk) x S w hx (snL_get hl k hk))
  rw[rmay_eq _ _ _ _ _ hm];have HL:Hid (∀ k (hk:k < l.length),E.mayL (l.drop k)=(l[k].may && E.mayL (l.drop (k+1)))):=Hi fun k hk=>by rw[List.drop_eq_getElem_cons hk];simp only[E.mayL]
  have HR:Hid (E.mayL (l.drop 0)=E.mayL l):=Hi (by rw[List.drop_zero])
  have HV0:=fun w=>BV.rsame_any v.k v.i 0 0 (str v.s) ⟨#[]⟩ w
  rw[show BV.sameB v.k v.i (str v.s) 0 0 ⟨#[]⟩=(v == v0) from sameB_v v v0]at HV0
  have HV:=Hi HV0;have HC0:=fun w=>BV.rcheck_any v.k v.i (str v.s) w
  rw[show BV.chkI v.k v.i (str v.s)=if v.may then 0 else 1 from rfl]at HC0
  have HCk:=Hi HC0;have HN0:=fun w=>rIsName_any (str n) w (by rw[str_size];omega)
  have HT0:=fun(h:(o == wCol)=true) w=>rIsName_any (str t) w (by rw[str_size];have:=ht (by simpa using h);omega)
  rw[str_list]at HN0;simp only[str_list]at HT0;have HN:=Hi HN0;have HT:=Hi HT0;simp only[E.op,E.v,E.tb,E.nm,E.l,eVal]at *;have HP:=Hi HP0;have eL:((str o).toList == [108,105,116])=(o == wLit):=by rw[Lib.toList_data,str_list];rfl
  have eL':((str o).toList != [108,105,116]) = !(o == wLit):=by rw[bne,eL]
  have eC:((str o).toList == [99,111,108])=(o == wCol):=by rw[Lib.toList_data,str_list];rfl
  have eC':((str o).toList != [99,111,108]) = !(o == wCol):=by rw[bne,eC]
  have eS:((str o).toList == [115,116,97,114])=(o == wStar):=by rw[Lib.toList_data,str_list];rfl
  have eA:((str o).toList == [99,97,108,108])=(o == wCall):=by rw[Lib.toList_data,str_list];rfl
  have et:((str t).toList == [])=(t == []):=by rw[Lib.toList_data,str_list]
  have et':((str t).toList != []) = !(t == []):=by rw[bne,et]
  have en:((str n).toList == [])=(n == []):=by rw[Lib.toList_data,str_list]
  have en':((str n).toList != []) = !(n == []):=by rw[bne,en]
  have ec:((str n).toList == [99,111,117,110,116])=(n == wCount):=by rw[Lib.toList_data,str_list];rfl
  have hsi:starIn n l=(n == wCount && (l.length == 1 && (l.headD e0).op == wStar)):=rfl;have h1e:(l.length == 1)=decide (l.length=1):=by by_cases h:l.length=1 <;> simp[h]
  rw[h1e]at hsi;have HSI:=Hi hsi;have h5:=op_five o;have HSS:=Hi (fun(h:l.length=1) W (hb:Below w.heap.size w W)=>(⟨fun x y (hx:EAt S W (l.headD e0) x) (hy:EAt (fun _=>True) W star y)=>rSame_any _ star x y S _ W hx hy,trivial⟩:(∀ x y,EAt S W (l.headD e0) x→EAt (fun _=>True) W star y→Calls Tryz.prog 136 #[x,y] W fun r w'=>r = .returned (.bool ((l.headD e0).same star))∧Below W.heap.size W w')∧True))
  generalize starIn n l=si at *;generalize E.mayL l=ml at *;generalize (l.headD e0).same star=ss at *;generalize rparts o l.length=pr at *;generalize hpL:(o == wLit)=pL at *;generalize hpC:(o == wCol)=pC at *;generalize hpS:(o == wStar)=pS at *;generalize hpA:(o == wCall)=pA at *;generalize (v == v0)=pv at *;generalize (t == [])=pt at *;generalize (n == [])=pn at *;generalize (n == wCount)=pcn at *;generalize v.may=vm at *;generalize nameB n=nb at *;generalize nameB t=tb at *;clear hpL hpC hpS hpA HP0 HV0 HC0 HN0 HT0 hsi h1e ih hl ht hn;generalize str o=bo at *;generalize str t=bt at *;generalize str n=bn at *;generalize str v.s=bs at *;generalize v.k=vk at *;generalize v.i=vi at *;obtain⟨W1,hW1,q1,z1,r1⟩:=box7 w (.string bo) (.int .i64 vk) (.int .i64 vi) (.string bs) (.string bt) (.string bn) (.slice A l.length c);have HM:=Hi hmem;have HW1:=Hi hW1;have HB1:=Hi r1;have HQ1:=Hi q1;obtain⟨a0,a1,a2,a3,a4,a5,a6⟩:=q1.cells;clear hmem hlc hcm hW1 z1 r1 q1;go_enter Tryz.func81,Tryz.ntmps81
  go_wp2_with (rw[←HW1.out])
  refine(HP.out _ HB1.out).mono ?_;rintro r w2 ⟨rfl,b2⟩;have HB2:=Hi (bthen HB1.out b2);have q2:=HQ1.out.later b2;have HQ2:=Hi q2;obtain⟨a0,a1,a2,a3,a4,a5,a6⟩:=q2.cells;clear b2 q2 HQ1 HP HB1 HW1;cases pr
  ·go_wp2_with fail
   go_ret
   exact⟨rfl,HB2.out⟩
  rcases h5 with ⟨rfl,rfl,rfl,rfl⟩ | ⟨rfl,rfl,rfl,rfl⟩ | ⟨rfl,rfl,rfl,rfl⟩ | ⟨rfl,rfl,rfl,rfl⟩ | ⟨rfl,rfl,rfl,rfl⟩
  ·-- a value
   clear HI HL HR HV HN HT HM HSS HSI;cases pt
   ·go_wp2_with fail
    go_ret
    exact⟨rfl,HB2.out⟩
   go_wp2_with fail;refine(HCk.out _).mono ?_;rintro r w3 ⟨rfl,b3⟩;have HB3:=Hi (bthen HB2.out b3);have q3:=HQ2.out.later b3;obtain⟨a0,a1,a2,a3,a4,a5,a6⟩:=q3.cells;clear b3 q3 HQ2 HCk HB2;cases vm
   ·simp only[Bool.false_eq_true,if_false]
    go_wp2_with fail
    go_ret
    exact⟨rfl,HB3.out⟩
   ·simp only[if_true]
    cases pn
    ·go_wp2_with fail
     go_ret
     exact⟨rfl,HB3.out⟩
    ·go_wp2_with fail
     go_ret
     exact⟨rfl,HB3.out⟩
  ·-- a column
   clear HI HL HR HM HSS HSI HCk;go_wp2_with fail;refine(HV.out _).mono ?_;rintro r w3 ⟨rfl,b3⟩;have HB3:=Hi (bthen HB2.out b3);have q3:=HQ2.out.later b3;have HQ3:=Hi q3;obtain⟨a0,a1,a2,a3,a4,a5,a6⟩:=q3.cells;clear b3 q3 HQ2 HV HB2;cases pv
   ·go_wp2_with fail
    go_ret
    exact⟨rfl,HB3.out⟩
   go_wp2_with fail;refine(HN.out _).mono ?_;rintro r w4 ⟨rfl,b4⟩;have HB4:=Hi (bthen HB3.out b4);have q4:=HQ3.out.later b4;have HQ4:=Hi q4;obtain⟨a0,a1,a2,a3,a4,a5,a6⟩:=q4.cells;clear b4 q4 HQ3 HN HB3;cases nb
   ·go_wp2_with fail
    go_ret
    exact⟨rfl,HB4.out⟩
   cases pt
   ·go_wp2_with fail
    refine(HT.out (by trivial) _).mono ?_
    rintro r w5 ⟨rfl,b5⟩;have HB5:=Hi (bthen HB4.out b5);clear b5 HQ4;go_wp2_with fail
    go_ret
    exact⟨by simp[rmayB],HB5.out⟩
   ·go_wp2_with fail
    go_ret
    exact⟨rfl,HB4.out⟩
  ·-- a star
   clear HI HL HR HM HSS HSI HCk HN HT;go_wp2_with fail;refine(HV.out _).mono ?_;rintro r w3 ⟨rfl,b3⟩;have HB3:=Hi (bthen HB2.out b3);have q3:=HQ2.out.later b3;obtain⟨a0,a1,a2,a3,a4,a5,a6⟩:=q3.cells;clear b3 q3 HQ2 HV HB2;cases pv
   ·go_wp2_with fail
    go_ret
    exact⟨rfl,HB3.out⟩
   cases pt
   ·go_wp2_with fail
    go_ret
    exact⟨rfl,HB3.out⟩
   ·go_wp2_with fail
    go_ret
    exact⟨rfl,HB3.out⟩
  ·-- a call
   clear HT HCk;go_wp2_with fail;refine(HV.out _).mono ?_;rintro r w3 ⟨rfl,b3⟩;have HB3:=Hi (bthen HB2.out b3);have q3:=HQ2.out.later b3;have HQ3:=Hi q3;obtain⟨a0,a1,a2,a3,a4,a5,a6⟩:=q3.cells;clear b3 q3 HQ2 HV HB2;cases pv
   ·go_wp2_with fail
    go_ret
    exact⟨rfl,HB3.out⟩
   cases pt
   ·go_wp2_with fail
    go_ret
    exact⟨rfl,HB3.out⟩
   go_wp2_with fail;refine(HN.out _).mono ?_;rintro r w4 ⟨rfl,b4⟩;have HB4:=Hi (bthen HB3.out b4);have q4:=HQ3.out.later b4;have HQ4:=Hi q4;obtain⟨a0,a1,a2,a3,a4,a5,a6⟩:=q4.cells;clear b4 q4 HQ3 HN HB3;cases nb
   ·go_wp2_with fail
    go_ret
    exact⟨rfl,HB4.out⟩
   by_cases hst:pcn=true∧l.length=1∧(l.headD e0).op=wStar
   ·obtain⟨rfl,hl1,hop⟩:=hst
    have hsi:si=true:=by rw[HSI.out,hl1,hop];rfl
    subst hsi;obtain⟨y,rfl⟩:=list_one hl1;obtain⟨g,off,rfl,hS,hg,hl⟩:=HM.out (by omega)
    obtain⟨A',c',⟨g0,g1,g2,g3,g4,g5,g6⟩,hs⟩:=hl.get 0 (by simp)
    simp only[List.getElem_cons_zero,List.headD_cons,Nat.zero_mul,Nat.add_zero,List.length_singleton]at *;have i0:=(HB4.out.cell (p:=⟨g,off,none⟩) hg).trans g0;have i1:=(HB4.out.cell (p:=⟨g,off+1,none⟩) hg).trans g1;have i2:=(HB4.out.cell (p:=⟨g,off+2,none⟩) hg).trans g2;have i3:=(HB4.out.cell (p:=⟨g,off+3,none⟩) hg).trans g3;have i4:=(HB4.out.cell (p:=⟨g,off+4,none⟩) hg).trans g4;have i5:=(HB4.out.cell (p:=⟨g,off+5,none⟩) hg).trans g5;have i6:=(HB4.out.cell (p:=⟨g,off+6,none⟩) hg).trans g6;have hE:EAt S w y (eVal y.op y.v y.tb y.nm (.slice A' y.l.length c')):=⟨A',c',rfl,hs⟩;have ey:((str y.op).toList == [115,116,97,114])=true:=by rw[Lib.toList_data,str_list,hop];rfl
    obtain⟨W5,hW5,q5,z5,r5⟩:=box7 w4 (.string (str y.op)) (.int .i64 y.v.k) (.int .i64 y.v.i) (.string (str y.v.s)) (.string (str y.tb)) (.string (str y.nm)) (.slice A' y.l.length c');have HW5:=Hi hW5;have HE5:=Hi ((hE.later HB4.out).later r5);have HB5:=Hi (bthen HB4.out r5);have HQ5:=Hi q5;have HSM:=Hi (fun W (hb:Below w.heap.size w W) (x y:Value) hx hy=>(HSS.out trivial W hb).1 x y hx hy)
    unfold eVal at HE5;generalize str y.op=bo' at *;generalize str y.tb=bt' at *;generalize str y.nm=bn' at *;generalize str y.v.s=bs' at *;generalize y.v.k=vk' at *;generalize y.v.i=vi' at *;generalize y.l.length=ln' at *;clear hW5 q5 z5 r5 hE hs hl g0 g1 g2 g3 g4 g5 g6 HSS HI HL HR HM HSI
    go_wp2_with (rw[←HW5.out])
    have HNE:Nonempty (LTx W5):=⟨⟨W5,Below.refl _ _⟩⟩;have F5:=fun x:LTx W5=>(HQ5.out.later x.2).cells
    have f0:∀ x:LTx W5,x.1.cell? ⟨w4.heap.size,0,none⟩=some (.string bo'):=fun x=>(F5 x).1
    have f1:∀ x:LTx W5,x.1.cell? ⟨w4.heap.size,1,none⟩=some (.int .i64 vk'):=fun x=>(F5 x).2.1
    have f2:∀ x:LTx W5,x.1.cell? ⟨w4.heap.size,2,none⟩=some (.int .i64 vi'):=fun x=>(F5 x).2.2.1
    have f3:∀ x:LTx W5,x.1.cell? ⟨w4.heap.size,3,none⟩=some (.string bs'):=fun x=>(F5 x).2.2.2.1
    have f4:∀ x:LTx W5,x.1.cell? ⟨w4.heap.size,4,none⟩=some (.string bt'):=fun x=>(F5 x).2.2.2.2.1
    have f5:∀ x:LTx W5,x.1.cell? ⟨w4.heap.size,5,none⟩=some (.string bn'):=fun x=>(F5 x).2.2.2.2.2.1
    have f6:∀ x:LTx W5,x.1.cell? ⟨w4.heap.size,6,none⟩=some (.slice A' ln' c'):=fun x=>(F5 x).2.2.2.2.2.2
    clear F5;refine wp_region_classx (fun w'=>∃ x:LTx W5,w'=x.1) (by kernel_rfl) (by kernel_rfl) ⟨⟨_,(Below.refl W5.heap.size W5).drew⟩,rfl⟩ ?_
    repeat(go_big_quiet_step ((rename_i x;first | (go_at_call 24;refine(rOp1 _ _ _ _ _).mono ?_;rintro e w2 ⟨rfl,hb⟩;exact⟨rfl,⟨_,bthen x.2 hb⟩,rfl⟩) | (go_at_call 136;refine(HSM.out _ (bthen HB5.out x.2) _ _ (HE5.out.later x.2) ⟨none,0,rfl,sub_nilx _ _ _ _ _ _⟩).mono ?_;rintro e w2 ⟨rfl,hb⟩;exact⟨rfl,⟨_,bthen x.2 hb⟩,rfl⟩))))
    refine wpQuiet_nil ?_;rintro _ ⟨x9,rfl⟩;go_wp2_with fail
    go_ret
    exact⟨rfl,bthen HB5.out x9.2⟩
   ·have hsi:si=false:=by
     rw[HSI.out,←Bool.not_eq_true];intro h;simp only[Bool.and_eq_true,decide_eq_true_eq,beq_iff_eq]at h;exact hst h
    subst hsi
    by_cases hp:pcn=true
    ·subst hp
     by_cases hl1:l.length=1
     ·have hop:(l.headD e0).op≠wStar:=fun h=>hst ⟨rfl,hl1,h⟩
      obtain⟨y,hy⟩:=list_one hl1;obtain⟨g,off,rfl,hS,hg,hl⟩:=HM.out (by omega)
      have hy0:l[0]'(by omega)=y:=by subst hy;rfl
      obtain⟨A',c',⟨g0,-,-,-,-,-,-⟩,-⟩:=hl.get 0 (by omega)
      rw[hy0]at g0;have hyo:y.op≠wStar:=by rw[hy]at hop;exact hop
      rw[Nat.zero_mul,Nat.add_zero]at g0;have i0:=(HB4.out.cell (p:=⟨g,off,none⟩) hg).trans g0;have ey:((str y.op).toList == [115,116,97,114])=false:=by rw[Lib.toList_data,str_list];simpa [wStar]using hyo
      have hlz:(l.length:Int)=1:=by omega
      generalize str y.op=bo' at *;clear HSS HSI hst hy hy0 hyo hop g0 hl;go_wp2_with fail
      go_loopw [97] (fun iv wr=>∃ (k:Nat),k≤l.length∧iv = .int .i64 k∧Hid (E.mayL (l.drop k)=ml)∧Hid (Below w.heap.size w wr)) (fun iv _=>l.length - (intOf iv).toNat)
      case atStart=>exact⟨0,by omega,rfl,HR,HB4⟩
      case round =>
       obtain⟨k,hk,rfl,HK,HB⟩:=hrel
       by_cases hlt:k < l.length
       ·obtain⟨g,off,hA2,hS,hg,hl⟩:=HM.out (by omega)
        simp at hA2
        obtain⟨hA3,hA4⟩:=hA2
        replace hA3:=hA3.symm
        replace hA4:=hA4.symm
        subst hA3;subst hA4;obtain⟨A',c',⟨g0,g1,g2,g3,g4,g5,g6⟩,hs⟩:=hl.get k hlt;have hkz:(k:Int) < (l.length:Int):=by omega
        have z:=HB.out.size;have i0:=(HB.out.cell (p:=⟨g,off+k*7,none⟩) hg).trans g0;have i1:=(HB.out.cell (p:=⟨g,off+k*7+1,none⟩) hg).trans g1;have i2:=(HB.out.cell (p:=⟨g,off+k*7+2,none⟩) hg).trans g2;have i3:=(HB.out.cell (p:=⟨g,off+k*7+3,none⟩) hg).trans g3;have i4:=(HB.out.cell (p:=⟨g,off+k*7+4,none⟩) hg).trans g4;have i5:=(HB.out.cell (p:=⟨g,off+k*7+5,none⟩) hg).trans g5;have i6:=(HB.out.cell (p:=⟨g,off+k*7+6,none⟩) hg).trans g6;obtain⟨X1,X,hX1,hX,b1,b2,hz,hb1,hb2⟩:=made7 wr (.string (str l[k].op)) (.int .i64 l[k].v.k) (.int .i64 l[k].v.i) (.string (str l[k].v.s)) (.string (str l[k].tb)) (.string (str l[k].nm)) (.slice A' l[k].l.length c');have f1:=b1.free;have y1:=b2.cells;obtain⟨p10,p11,p12,p13,p14,p15,p16⟩:=b1.cells
        have hE:EAt S X l[k] (eVal l[k].op l[k].v l[k].tb l[k].nm (.slice A' l[k].l.length c')):=by
         have h0:EAt S w l[k] (eVal l[k].op l[k].v l[k].tb l[k].nm (.slice A' l[k].l.length c')):=⟨A',c',rfl,hs⟩;exact(h0.later HB.out).later hb2
        have HC:=Hi (HI.out k hlt _ X hE);have hKK:=HL.out k hlt;rw[HK.out]at hKK;have HKK:=Hi hKK;have HBX:=Hi (bthen HB.out hb2);have HX1:=Hi hX1;have HX:=Hi hX;obtain⟨f10,f11,f12,f13,f14,f15,f16⟩:=f1;obtain⟨y10,y11,y12,y13,y14,y15,y16⟩:=y1;unfold eVal at HC;generalize str l[k].op=bo' at *;generalize str l[k].tb=bt' at *;generalize str l[k].nm=bn' at *;generalize str l[k].v.s=bs' at *;generalize l[k].v.k=vk' at *;generalize l[k].v.i=vi' at *;generalize l[k].l.length=ln' at *;generalize hdp:l[k].may=Q at *;clear hX1 hX hs hl hE g0 g1 g2 g3 g4 g5 g6 b1 b2 hb1 hb2 HB HI HM hdp HK HR HL hKK;cases Q
        ·go_wp2_with (first | (rw[←HX.out]) | (rw[←HX1.out]))
         refine(HC.out).mono ?_;rintro e w9 ⟨rfl,b9⟩;have hRR:=HKK.out;rw[Bool.false_and]at hRR;subst hRR;go_wp2_with fail
         go_ret
         exact⟨rfl,bthen HBX.out b9⟩
        ·go_wp2_with (first | (rw[←HX.out]) | (rw[←HX1.out]))
         refine(HC.out).mono ?_;rintro e w9 ⟨rfl,b9⟩;go_wp2_with fail
         go_roundw
         case measure=>simp[intOf];omega
         case rel=>exact⟨k+1,by omega,by go_num,Hi (by rw[HKK.out,Bool.true_and]),bthen HBX.out b9⟩
       ·have hke:k=l.length:=by omega
        have hkz:¬(k:Int) < (l.length:Int):=by omega
        subst hke;have hKK:=HK.out;rw[List.drop_length]at hKK;simp only[E.mayL]at hKK;subst hKK;clear HM HI HL HR HK;go_wp2_with fail
        go_ret
        exact⟨rfl,HB.out⟩
     ·have hlz:((l.length:Int) == 1)=false:=by simpa using (show ¬(l.length:Int)=1 by omega)
      clear HSS HSI hst;go_wp2_with fail
      go_loopw [97] (fun iv wr=>∃ (k:Nat),k≤l.length∧iv = .int .i64 k∧Hid (E.mayL (l.drop k)=ml)∧Hid (Below w.heap.size w wr)) (fun iv _=>l.length - (intOf iv).toNat)
      case atStart=>exact⟨0,by omega,rfl,HR,HB4⟩
      case round =>
       obtain⟨k,hk,rfl,HK,HB⟩:=hrel
       by_cases hlt:k < l.length
       ·obtain⟨g,off,rfl,hS,hg,hl⟩:=HM.out (by omega)
        obtain⟨A',c',⟨g0,g1,g2,g3,g4,g5,g6⟩,hs⟩:=hl.get k hlt;have hkz:(k:Int) < (l.length:Int):=by omega
        have z:=HB.out.size;have i0:=(HB.out.cell (p:=⟨g,off+k*7,none⟩) hg).trans g0;have i1:=(HB.out.cell (p:=⟨g,off+k*7+1,none⟩) hg).trans g1;have i2:=(HB.out.cell (p:=⟨g,off+k*7+2,none⟩) hg).trans g2;have i3:=(HB.out.cell (p:=⟨g,off+k*7+3,none⟩) hg).trans g3;have i4:=(HB.out.cell (p:=⟨g,off+k*7+4,none⟩) hg).trans g4;have i5:=(HB.out.cell (p:=⟨g,off+k*7+5,none⟩) hg).trans g5;have i6:=(HB.out.cell (p:=⟨g,off+k*7+6,none⟩) hg).trans g6;obtain⟨X1,X,hX1,hX,b1,b2,hz,hb1,hb2⟩:=made7 wr (.string (str l[k].op)) (.int .i64 l[k].v.k) (.int .i64 l[k].v.i) (.string (str l[k].v.s)) (.string (str l[k].tb)) (.string (str l[k].nm)) (.slice A' l[k].l.length c');have f1:=b1.free;have y1:=b2.cells;obtain⟨p10,p11,p12,p13,p14,p15,p16⟩:=b1.cells
        have hE:EAt S X l[k] (eVal l[k].op l[k].v l[k].tb l[k].nm (.slice A' l[k].l.length c')):=by
         have h0:EAt S w l[k] (eVal l[k].op l[k].v l[k].tb l[k].nm (.slice A' l[k].l.length c')):=⟨A',c',rfl,hs⟩;exact(h0.later HB.out).later hb2
        have HC:=Hi (HI.out k hlt _ X hE);have hKK:=HL.out k hlt;rw[HK.out]at hKK;have HKK:=Hi hKK;have HBX:=Hi (bthen HB.out hb2);have HX1:=Hi hX1;have HX:=Hi hX;obtain⟨f10,f11,f12,f13,f14,f15,f16⟩:=f1;obtain⟨y10,y11,y12,y13,y14,y15,y16⟩:=y1;unfold eVal at HC;generalize str l[k].op=bo' at *;generalize str l[k].tb=bt' at *;generalize str l[k].nm=bn' at *;generalize str l[k].v.s=bs' at *;generalize l[k].v.k=vk' at *;generalize l[k].v.i=vi' at *;generalize l[k].l.length=ln' at *;generalize hdp:l[k].may=Q at *;clear hX1 hX hs hl hE g0 g1 g2 g3 g4 g5 g6 b1 b2 hb1 hb2 HB HI HM hdp HK HR HL hKK;cases Q
        ·go_wp2_with (first | (rw[←HX.out]) | (rw[←HX1.out]))
         refine(HC.out).mono ?_;rintro e w9 ⟨rfl,b9⟩;have hRR:=HKK.out;rw[Bool.false_and]at hRR;subst hRR;go_wp2_with fail
         go_ret
         exact⟨rfl,bthen HBX.out b9⟩
        ·go_wp2_with (first | (rw[←HX.out]) | (rw[←HX1.out]))
         refine(HC.out).mono ?_;rintro e w9 ⟨rfl,b9⟩;go_wp2_with fail
         go_roundw
         case measure=>simp[intOf];omega
         case rel=>exact⟨k+1,by omega,by go_num,Hi (by rw[HKK.out,Bool.true_and]),bthen HBX.out b9⟩
       ·have hke:k=l.length:=by omega
        have hkz:¬(k:Int) < (l.length:Int):=by omega
        subst hke;have hKK:=HK.out;rw[List.drop_length]at hKK;simp only[E.mayL]at hKK;subst hKK;clear HM HI HL HR HK;go_wp2_with fail
        go_ret
        exact⟨rfl,HB.out⟩
    ·have hp':pcn=false:=by simpa using hp
     subst hp';clear HSS HSI hst;go_wp2_with fail
     go_loopw [97] (fun iv wr=>∃ (k:Nat),k≤l.length∧iv = .int .i64 k∧Hid (E.mayL (l.drop k)=ml)∧Hid (Below w.heap.size w wr)) (fun iv _=>l.length - (intOf iv).toNat)
     case atStart=>exact⟨0,by omega,rfl,HR,HB4⟩
     case round =>
      obtain⟨k,hk,rfl,HK,HB⟩:=hrel
      by_cases hlt:k < l.length
      ·obtain⟨g,off,rfl,hS,hg,hl⟩:=HM.out (by omega)
       obtain⟨A',c',⟨g0,g1,g2,g3,g4,g5,g6⟩,hs⟩:=hl.get k hlt;have hkz:(k:Int) < (l.length:Int):=by omega
       have z:=HB.out.size;have i0:=(HB.out.cell (p:=⟨g,off+k*7,none⟩) hg).trans g0;have i1:=(HB.out.cell (p:=⟨g,off+k*7+1,none⟩) hg).trans g1;have i2:=(HB.out.cell (p:=⟨g,off+k*7+2,none⟩) hg).trans g2;have i3:=(HB.out.cell (p:=⟨g,off+k*7+3,none⟩) hg).trans g3;have i4:=(HB.out.cell (p:=⟨g,off+k*7+4,none⟩) hg).trans g4;have i5:=(HB.out.cell (p:=⟨g,off+k*7+5,none⟩) hg).trans g5;have i6:=(HB.out.cell (p:=⟨g,off+k*7+6,none⟩) hg).trans g6;obtain⟨X1,X,hX1,hX,b1,b2,hz,hb1,hb2⟩:=made7 wr (.string (str l[k].op)) (.int .i64 l[k].v.k) (.int .i64 l[k].v.i) (.string (str l[k].v.s)) (.string (str l[k].tb)) (.string (str l[k].nm)) (.slice A' l[k].l.length c');have f1:=b1.free;have y1:=b2.cells;obtain⟨p10,p11,p12,p13,p14,p15,p16⟩:=b1.cells
       have hE:EAt S X l[k] (eVal l[k].op l[k].v l[k].tb l[k].nm (.slice A' l[k].l.length c')):=by
        have h0:EAt S w l[k] (eVal l[k].op l[k].v l[k].tb l[k].nm (.slice A' l[k].l.length c')):=⟨A',c',rfl,hs⟩;exact(h0.later HB.out).later hb2
       have HC:=Hi (HI.out k hlt _ X hE);have hKK:=HL.out k hlt;rw[HK.out]at hKK;have HKK:=Hi hKK;have HBX:=Hi (bthen HB.out hb2);have HX1:=Hi hX1;have HX:=Hi hX;obtain⟨f10,f11,f12,f13,f14,f15,f16⟩:=f1;obtain⟨y10,y11,y12,y13,y14,y15,y16⟩:=y1;unfold eVal at HC;generalize str l[k].op=bo' at *;generalize str l[k].tb=bt' at *;generalize str l[k].nm=bn' at *;generalize str l[k].v.s=bs' at *;generalize l[k].v.k=vk' at *;generalize l[k].v.i=vi' at *;generalize l[k].l.length=ln' at *;generalize hdp:l[k].may=Q at *;clear hX1 hX hs hl hE g0 g1 g2 g3 g4 g5 g6 b1 b2 hb1 hb2 HB HI HM hdp HK HR HL hKK;cases Q
       ·go_wp2_with (first | (rw[←HX.out]) | (rw[←HX1.out]))
        refine(HC.out).mono ?_;rintro e w9 ⟨rfl,b9⟩;have hRR:=HKK.out;rw[Bool.false_and]at hRR;subst hRR;go_wp2_with fail
        go_ret
        exact⟨rfl,bthen HBX.out b9⟩
       ·go_wp2_with (first | (rw[←HX.out]) | (rw[←HX1.out]))
        refine(HC.out).mono ?_;rintro e w9 ⟨rfl,b9⟩;go_wp2_with fail
        go_roundw
        case measure=>simp[intOf];omega
        case rel=>exact⟨k+1,by omega,by go_num,Hi (by rw[HKK.out,Bool.true_and]),bthen HBX.out b9⟩
      ·have hke:k=l.length:=by omega
       have hkz:¬(k:Int) < (l.length:Int):=by omega
       subst hke;have hKK:=HK.out;rw[List.drop_length]at hKK;simp only[E.mayL]at hKK;subst hKK;clear HM HI HL HR HK;go_wp2_with fail
       go_ret
       exact⟨rfl,HB.out⟩
  ·-- any other
   clear HSS HSI HN HT HCk;go_wp2_with fail;refine(HV.out _).mono ?_;rintro r w4 ⟨rfl,b4⟩;have HB4:=Hi (bthen HB2.out b4);have q4:=HQ2.out.later b4;obtain⟨a0,a1,a2,a3,a4,a5,a6⟩:=q4.cells;clear b4 q4 HQ2 HV HB2;cases pv
   ·go_wp2_with fail
    go_ret
    exact⟨rfl,HB4.out⟩
   cases pt
   ·go_wp2_with fail
    go_ret
    exact⟨rfl,HB4.out⟩
   cases pn
   ·go_wp2_with fail
    go_ret
    exact⟨rfl,HB4.out⟩
   go_wp2_with fail
   go_loopw [97] (fun iv wr=>∃ (k:Nat),k≤l.length∧iv = .int .i64 k∧Hid (E.mayL (l.drop k)=ml)∧Hid (Below w.heap.size w wr)) (fun iv _=>l.length - (intOf iv).toNat)
   case atStart=>exact⟨0,by omega,rfl,HR,HB4⟩
   case round =>
    obtain⟨k,hk,rfl,HK,HB⟩:=hrel
    by_cases hlt:k < l.length
    ·obtain⟨g,off,rfl,hS,hg,hl⟩:=HM.out (by omega)
     obtain⟨A',c',⟨g0,g1,g2,g3,g4,g5,g6⟩,hs⟩:=hl.get k hlt;have hkz:(k:Int) < (l.length:Int):=by omega
     have z:=HB.out.size;have i0:=(HB.out.cell (p:=⟨g,off+k*7,none⟩) hg).trans g0;have i1:=(HB.out.cell (p:=⟨g,off+k*7+1,none⟩) hg).trans g1;have i2:=(HB.out.cell (p:=⟨g,off+k*7+2,none⟩) hg).trans g2;have i3:=(HB.out.cell (p:=⟨g,off+k*7+3,none⟩) hg).trans g3;have i4:=(HB.out.cell (p:=⟨g,off+k*7+4,none⟩) hg).trans g4;have i5:=(HB.out.cell (p:=⟨g,off+k*7+5,none⟩) hg).trans g5;have i6:=(HB.out.cell (p:=⟨g,off+k*7+6,none⟩) hg).trans g6;obtain⟨X1,X,hX1,hX,b1,b2,hz,hb1,hb2⟩:=made7 wr (.string (str l[k].op)) (.int .i64 l[k].v.k) (.int .i64 l[k].v.i) (.string (str l[k].v.s)) (.string (str l[k].tb)) (.string (str l[k].nm)) (.slice A' l[k].l.length c');have f1:=b1.free;have y1:=b2.cells;obtain⟨p10,p11,p12,p13,p14,p15,p16⟩:=b1.cells
     have hE:EAt S X l[k] (eVal l[k].op l[k].v l[k].tb l[k].nm (.slice A' l[k].l.length c')):=by
      have h0:EAt S w l[k] (eVal l[k].op l[k].v l[k].tb l[k].nm (.slice A' l[k].l.length c')):=⟨A',c',rfl,hs⟩;exact(h0.later HB.out).later hb2
     have HC:=Hi (HI.out k hlt _ X hE);have hKK:=HL.out k hlt;rw[HK.out]at hKK;have HKK:=Hi hKK;have HBX:=Hi (bthen HB.out hb2);have HX1:=Hi hX1;have HX:=Hi hX;obtain⟨f10,f11,f12,f13,f14,f15,f16⟩:=f1;obtain⟨y10,y11,y12,y13,y14,y15,y16⟩:=y1;unfold eVal at HC;generalize str l[k].op=bo' at *;generalize str l[k].tb=bt' at *;generalize str l[k].nm=bn' at *;generalize str l[k].v.s=bs' at *;generalize l[k].v.k=vk' at *;generalize l[k].v.i=vi' at *;generalize l[k].l.length=ln' at *;generalize hdp:l[k].may=Q at *;clear hX1 hX hs hl hE g0 g1 g2 g3 g4 g5 g6 b1 b2 hb1 hb2 HB HI HM hdp HK HR HL hKK;cases Q
     ·go_wp2_with (first | (rw[←HX.out]) | (rw[←HX1.out]))
      refine(HC.out).mono ?_;rintro e w9 ⟨rfl,b9⟩;have hRR:=HKK.out;rw[Bool.false_and]at hRR;subst hRR;go_wp2_with fail
      go_ret
      exact⟨rfl,bthen HBX.out b9⟩
     ·go_wp2_with (first | (rw[←HX.out]) | (rw[←HX1.out]))
      refine(HC.out).mono ?_;rintro e w9 ⟨rfl,b9⟩;go_wp2_with fail
      go_roundw
      case measure=>simp[intOf];omega
      case rel=>exact⟨k+1,by omega,by go_num,Hi (by rw[HKK.out,Bool.true_and]),bthen HBX.out b9⟩
    ·have hke:k=l.length:=by omega
     have hkz:¬(k:Int) < (l.length:Int):=by omega
     subst hke;have hKK:=HK.out;rw[List.drop_length]at hKK;simp only[E.mayL]at hKK;subst hKK;clear HM HI HL HR HK;go_wp2_with fail
     go_ret
     exact⟨rfl,HB.out⟩
theorem rCheck_any(e:E)(x:Value)(S:Nat→Prop)(w:World)(hx:EAt S w e x)(hsh:e.sn=true)(hd:e.deep≤1000000):Calls Tryz.prog 58 #[x] w fun r w'=>r = .returned (.int .i64 (chkE e))∧Below w.heap.size w w':=by
 obtain⟨s0,i1,i2,s3,s4,s5,A,n,c,rfl⟩:=hx.agg;obtain⟨W1,hW1,q1,z1,r1⟩:=box7 w (.string s0) (.int .i64 i1) (.int .i64 i2) (.string s3) (.string s4) (.string s5) (.slice A n c);have hx1:=hx.later r1;have HM:=Hi (rMay_any e _ S W1 hx1 hsh);have HD:=Hi (fun W (hb:Below W1.heap.size W1 W)=>rDeep_any e _ S W (hx1.later hb) hd)
 obtain⟨a0,a1,a2,a3,a4,a5,a6⟩:=q1.cells;have HB:=Hi r1;have HW1:=Hi hW1;have HQ:=Hi q1;unfold chkE;generalize e.may=m at *;generalize hdp:e.deep=dp at *;clear hW1 hx hx1 hsh r1 q1 hdp z1;cases m
 ·simp only[Bool.false_eq_true,if_false]
  go_enter Tryz.func58,Tryz.ntmps58
  go_wp2_with (rw[←HW1.out])
  refine(HM.out).mono ?_;rintro r w3 ⟨rfl,b3⟩;go_wp2_with fail
  go_ret
  exact⟨rfl,bthen HB.out b3⟩
 ·simp only[if_true]
  by_cases h4:40 < dp
  ·rw[if_pos h4]
   have h4z:(40:Int) < (dp:Int):=by omega
   go_enter Tryz.func58,Tryz.ntmps58
   go_wp2_with (rw[←HW1.out])
   refine(HM.out).mono ?_;rintro r w3 ⟨rfl,b3⟩;have HB3:=Hi (bthen HB.out b3);have HD3:=Hi (HD.out _ b3);obtain⟨a0,a1,a2,a3,a4,a5,a6⟩:=(HQ.out.later b3).cells;clear b3;go_wp2_with fail;refine(HD3.out).mono ?_;rintro r w4 ⟨rfl,b4⟩;go_wp2_with fail
   go_ret
   exact⟨rfl,bthen HB3.out b4⟩
  ·rw[if_neg h4]
   have h4z:¬(40:Int) < (dp:Int):=by omega
   go_enter Tryz.func58,Tryz.ntmps58
   go_wp2_with (rw[←HW1.out])
   refine(HM.out).mono ?_;rintro r w3 ⟨rfl,b3⟩;have HB3:=Hi (bthen HB.out b3);have HD3:=Hi (HD.out _ b3);obtain⟨a0,a1,a2,a3,a4,a5,a6⟩:=(HQ.out.later b3).cells;clear b3;go_wp2_with fail;refine(HD3.out).mono ?_;rintro r w4 ⟨rfl,b4⟩;go_wp2_with fail
   go_ret
   exact⟨rfl,bthen HB3.out b4⟩
end Go.Proofs.YtcicpjgnpcnnmaaGreatDoor
