import Derived.Test.YtcicpjgnpcnnmaaGreatDoorQ21
set_option maxRecDepth 100000
set_option maxHeartbeats 8000000
set_option linter.unusedSimpArgs false
set_option linter.unusedVariables false
namespace Go.Proofs.YtcicpjgnpcnnmaaGreatDoor
open Go.RowKit
open SC (HV VBox zero_box Args FnBox)
theorem all_chk{xs:List BV.V}(h:BV.allOk xs=true):∀ v∈xs,v.chk=0:=fun v hv=>by
 have:=List.all_eq_true.1 h v hv
 simpa using this
theorem txt_of{a:BV.V}(hc:a.chk=0)(hk:a.k=3):a=⟨3,0,a.s⟩:=by
 rw[chk_iff]at hc;obtain⟨k,i,s⟩:=a;simp only at hk;subst hk
 simp[BV.mayB]at hc
 rw[hc]
theorem int_of{a:BV.V}(hc:a.chk=0)(hk:a.k=2):a=⟨2,a.i,⟨#[]⟩⟩:=by
 rw[chk_iff]at hc;obtain⟨k,i,s⟩:=a;simp only at hk;subst hk
 simp[BV.mayB]at hc
 have:s=⟨#[]⟩:=by
  unfold BV.emp at hc;rw[Lib.toList_data,List.isEmpty_iff]at hc;exact ByteArray.ext (Array.ext' hc)
 rw[this]
theorem fit8{k:Int}(h:SC.fitsK 8 k=true):k=3:=by unfold SC.fitsK at h;simpa using h
theorem fit4{k:Int}(h:SC.fitsK 4 k=true):k=2:=by unfold SC.fitsK at h;simpa using h
theorem one_of{xs:List BV.V}(h:xs.length=1):∃ a,xs = [a]:=by
 match xs,h with
 | [a],_=>exact⟨_,rfl⟩
theorem two_of{xs:List BV.V}(h:xs.length=2):∃ a b,xs = [a,b]:=by
 match xs,h with
 | [a,b],_=>exact⟨_,_,rfl⟩
theorem three_of{xs:List BV.V}(h:xs.length=3):∃ a b c,xs = [a,b,c]:=by
 match xs,h with
 | [a,b,c],_=>exact⟨_,_,_,rfl⟩
theorem takes_eq{lo hi n:Int}(h:SC.takesB lo hi n=true)(hl:lo=hi)(h0:0≤hi):n=hi:=by
 unfold SC.takesB at h;simp only[Bool.and_eq_true,Bool.or_eq_true,decide_eq_true_eq]at h
 omega
theorem okK1{k0 k1 k2:Int}{a:BV.V}(h:SC.okK [k0,k1,k2] [a]=true)(hn:SC.nulB [a]=false):SC.fitsK k0 a.k=true:=by
 simp only[SC.okK,List.zip_cons_cons,List.zip_nil_right,List.all_cons,List.all_nil,Bool.and_true,Bool.or_eq_true,beq_iff_eq]at h;simp only[SC.nulB,List.any_cons,List.any_nil,Bool.or_false,beq_eq_false_iff_ne]at hn;exact h.resolve_left hn
theorem okK2{k0 k1 k2:Int}{a b:BV.V}(h:SC.okK [k0,k1,k2] [a,b]=true)(hn:SC.nulB [a,b]=false):SC.fitsK k0 a.k=true∧SC.fitsK k1 b.k=true:=by
 simp only[SC.okK,List.zip_cons_cons,List.zip_nil_right,List.all_cons,List.all_nil,Bool.and_true,Bool.and_eq_true,Bool.or_eq_true,beq_iff_eq]at h;simp only[SC.nulB,List.any_cons,List.any_nil,Bool.or_false,Bool.or_eq_false_iff,beq_eq_false_iff_ne]at hn;exact⟨h.1.resolve_left hn.1,h.2.resolve_left hn.2⟩
theorem okK3{k0 k1 k2:Int}{a b c:BV.V}(h:SC.okK [k0,k1,k2] [a,b,c]=true)(hn:SC.nulB [a,b,c]=false):SC.fitsK k0 a.k=true∧SC.fitsK k1 b.k=true∧SC.fitsK k2 c.k=true:=by
 simp only[SC.okK,List.zip_cons_cons,List.zip_nil_right,List.all_cons,List.all_nil,Bool.and_true,Bool.and_eq_true,Bool.or_eq_true,beq_iff_eq]at h;simp only[SC.nulB,List.any_cons,List.any_nil,Bool.or_false,Bool.or_eq_false_iff,beq_eq_false_iff_ne]at hn;exact⟨h.1.resolve_left hn.1,h.2.1.resolve_left hn.2.1,h.2.2.resolve_left hn.2.2⟩
theorem str_injE{l m:List UInt8}(h:str l=str m):l=m:=by rw[←str_list l,h,str_list]
def AllFit(xs:List BV.V):Prop:=∀ v∈xs,I64 v∧v.s.size≤100000000
theorem doCoalesce_eq(l:List BV.V):doP fCoalesce l=(0,firstV l):=by
 unfold doP;rw[if_pos rfl]
theorem callAnyCoalesce(xs:List BV.V)(H:Nat)(w:World)(hx:SC.look (str fCoalesce)=some (⟨⟨#[99,111,97,108,101,115,99,101]⟩,1,(-1),0,0,0,190⟩:SC.Fn))(hA:Args w H xs)(hm:xs.length≤2000)(_hE:SC.Env w)(_hf:AllFit xs) :
  Calls Tryz.prog 94 #[.string (str fCoalesce),.slice (some ⟨H,0,none⟩) xs.length xs.length] w fun e w'=>e = .returned (vA (callX fCoalesce (⟨⟨#[99,111,97,108,101,115,99,101]⟩,1,(-1),0,0,0,190⟩:SC.Fn) xs))∧Below w.heap.size w w':=by
 have hx':SC.look ⟨#[99,111,97,108,101,115,99,101]⟩=some (⟨⟨#[99,111,97,108,101,115,99,101]⟩,1,(-1),0,0,0,190⟩:SC.Fn):=hx
 show Calls Tryz.prog 94 #[.string ⟨#[99,111,97,108,101,115,99,101]⟩,_] w _
 unfold callX
 by_cases ht:SC.takesB 1 (-1) xs.length=false
 ·rw[if_pos (Or.inl ht)]
  exact callBad1 _ _ hx' xs H w ht
 have ht':SC.takesB 1 (-1) xs.length=true:=by simpa using ht
 by_cases hok:BV.allOk xs=false
 ·rw[if_pos (Or.inr hok)]
  exact callBad2 _ _ hx' xs H w hA hm ht' hok
 rw[if_neg (by rintro(h | h) <;> contradiction)]
 have hok':BV.allOk xs=true:=by simpa using hok
 rw[if_pos rfl];rw[doCoalesce_eq];exact callDoZ _ _ hx' (Proofs.enters_of Tryz.func190 (by kernel_rfl) rfl) (fun _=>by kernel_rfl) xs _ H w hA hm ht' hok' fun W hW=>doCoalesce xs H W (hA.later hW) (by omega)
theorem doNullif_eq(l:List BV.V):doP fNullif l=dNullif (at0 l) (at1 l):=by
 unfold doP;rw[if_neg (by decide)]
 rw[if_pos rfl]
theorem callAnyNullif(xs:List BV.V)(H:Nat)(w:World)(hx:SC.look (str fNullif)=some (⟨⟨#[110,117,108,108,105,102]⟩,2,2,0,0,0,191⟩:SC.Fn))(hA:Args w H xs)(hm:xs.length≤2000)(_hE:SC.Env w)(_hf:AllFit xs) :
  Calls Tryz.prog 94 #[.string (str fNullif),.slice (some ⟨H,0,none⟩) xs.length xs.length] w fun e w'=>e = .returned (vA (callX fNullif (⟨⟨#[110,117,108,108,105,102]⟩,2,2,0,0,0,191⟩:SC.Fn) xs))∧Below w.heap.size w w':=by
 have hx':SC.look ⟨#[110,117,108,108,105,102]⟩=some (⟨⟨#[110,117,108,108,105,102]⟩,2,2,0,0,0,191⟩:SC.Fn):=hx
 show Calls Tryz.prog 94 #[.string ⟨#[110,117,108,108,105,102]⟩,_] w _
 unfold callX
 by_cases ht:SC.takesB 2 2 xs.length=false
 ·rw[if_pos (Or.inl ht)]
  exact callBad1 _ _ hx' xs H w ht
 have ht':SC.takesB 2 2 xs.length=true:=by simpa using ht
 by_cases hok:BV.allOk xs=false
 ·rw[if_pos (Or.inr hok)]
  exact callBad2 _ _ hx' xs H w hA hm ht' hok
 rw[if_neg (by rintro(h | h) <;> contradiction)]
 have hok':BV.allOk xs=true:=by simpa using hok
 rw[if_pos rfl];have hlen:(xs.length:Int)=2:=takes_eq ht' rfl (by decide)
 obtain⟨a,b,rfl⟩:=two_of (xs:=xs) (by omega)
 rw[doNullif_eq];exact callDoZ _ _ hx' (Proofs.enters_of Tryz.func191 (by kernel_rfl) rfl) (fun _=>by kernel_rfl) [a,b] _ H w hA hm ht' hok' fun W hW=>doNullif a b H W (hA.later hW)
theorem doAbs_eq(l:List BV.V):doP fAbs l=dAbs (at0 l):=by
 unfold doP;rw[if_neg (by decide)]
 rw[if_neg (by decide)]
 rw[if_pos rfl]
theorem callAnyAbs(xs:List BV.V)(H:Nat)(w:World)(hx:SC.look (str fAbs)=some (⟨⟨#[97,98,115]⟩,1,1,4,0,0,192⟩:SC.Fn))(hA:Args w H xs)(hm:xs.length≤2000)(hE:SC.Env w)(hf:AllFit xs) :
  Calls Tryz.prog 94 #[.string (str fAbs),.slice (some ⟨H,0,none⟩) xs.length xs.length] w fun e w'=>e = .returned (vA (callX fAbs (⟨⟨#[97,98,115]⟩,1,1,4,0,0,192⟩:SC.Fn) xs))∧Below w.heap.size w w':=by
 have hx':SC.look ⟨#[97,98,115]⟩=some (⟨⟨#[97,98,115]⟩,1,1,4,0,0,192⟩:SC.Fn):=hx
 show Calls Tryz.prog 94 #[.string ⟨#[97,98,115]⟩,_] w _
 unfold callX
 by_cases ht:SC.takesB 1 1 xs.length=false
 ·rw[if_pos (Or.inl ht)]
  exact callBad1 _ _ hx' xs H w ht
 have ht':SC.takesB 1 1 xs.length=true:=by simpa using ht
 by_cases hok:BV.allOk xs=false
 ·rw[if_pos (Or.inr hok)]
  exact callBad2 _ _ hx' xs H w hA hm ht' hok
 rw[if_neg (by rintro(h | h) <;> contradiction)]
 have hok':BV.allOk xs=true:=by simpa using hok
 rw[if_neg (by decide)]
 have hlen:(xs.length:Int)=1:=takes_eq ht' rfl (by decide)
 have h3:xs.length≤3:=by omega
 have hk:∀ j (h:j < xs.length),SC.KindOk ([(4:Int),0,0][j]'(by simp;omega)):=fun j h=>by
  match j,h with
  | 0,_=>exact Or.inl rfl
  | 1,h=>exact absurd h (by omega)
  | 2,h=>exact absurd h (by omega)
  | j+3,h=>exact absurd h (by omega)
 by_cases hs:SC.okK [4,0,0] xs=false
 ·rw[if_pos hs]
  have h:=callNull _ _ hx' xs H w hA h3 ht' hok' hk (fun _=>by kernel_rfl) (Or.inl hs)
  rwa [if_pos hs]at h
 by_cases hn:SC.nulB xs=true
 ·rw[if_neg hs,if_pos hn]
  have h:=callNull _ _ hx' xs H w hA h3 ht' hok' hk (fun _=>by kernel_rfl) (Or.inr hn)
  rwa [if_neg hs]at h
 rw[if_neg hs,if_neg hn];have hs':SC.okK [4,0,0] xs=true:=by simpa using hs
 have hn':SC.nulB xs=false:=by simpa using hn
 refine callDoG _ _ hx' (Proofs.enters_of Tryz.func192 (by kernel_rfl) rfl) (fun _=>by kernel_rfl) xs _ H w hA ht' hok' h3 hk hs' hn' fun W hW => ?_
 have hA':=hA.later hW;have hE':=hE.later hW;have hc:=all_chk hok';rw[doAbs_eq];obtain⟨a,rfl⟩:=one_of (xs:=xs) (by omega)
 have hF:=okK1 hs' hn';exact doAbs a H W hA' (hf a (by simp)).1
theorem doSign_eq(l:List BV.V):doP fSign l=dSign (at0 l):=by
 unfold doP;rw[if_neg (by decide)]
 rw[if_neg (by decide)]
 rw[if_neg (by decide)]
 rw[if_pos rfl]
theorem callAnySign(xs:List BV.V)(H:Nat)(w:World)(hx:SC.look (str fSign)=some (⟨⟨#[115,105,103,110]⟩,1,1,4,0,0,193⟩:SC.Fn))(hA:Args w H xs)(hm:xs.length≤2000)(hE:SC.Env w)(_hf:AllFit xs) :
  Calls Tryz.prog 94 #[.string (str fSign),.slice (some ⟨H,0,none⟩) xs.length xs.length] w fun e w'=>e = .returned (vA (callX fSign (⟨⟨#[115,105,103,110]⟩,1,1,4,0,0,193⟩:SC.Fn) xs))∧Below w.heap.size w w':=by
 have hx':SC.look ⟨#[115,105,103,110]⟩=some (⟨⟨#[115,105,103,110]⟩,1,1,4,0,0,193⟩:SC.Fn):=hx
 show Calls Tryz.prog 94 #[.string ⟨#[115,105,103,110]⟩,_] w _
 unfold callX
 by_cases ht:SC.takesB 1 1 xs.length=false
 ·rw[if_pos (Or.inl ht)]
  exact callBad1 _ _ hx' xs H w ht
 have ht':SC.takesB 1 1 xs.length=true:=by simpa using ht
 by_cases hok:BV.allOk xs=false
 ·rw[if_pos (Or.inr hok)]
  exact callBad2 _ _ hx' xs H w hA hm ht' hok
 rw[if_neg (by rintro(h | h) <;> contradiction)]
 have hok':BV.allOk xs=true:=by simpa using hok
 rw[if_neg (by decide)]
 have hlen:(xs.length:Int)=1:=takes_eq ht' rfl (by decide)
 have h3:xs.length≤3:=by omega
 have hk:∀ j (h:j < xs.length),SC.KindOk ([(4:Int),0,0][j]'(by simp;omega)):=fun j h=>by
  match j,h with
  | 0,_=>exact Or.inl rfl
  | 1,h=>exact absurd h (by omega)
  | 2,h=>exact absurd h (by omega)
  | j+3,h=>exact absurd h (by omega)
 by_cases hs:SC.okK [4,0,0] xs=false
 ·rw[if_pos hs]
  have h:=callNull _ _ hx' xs H w hA h3 ht' hok' hk (fun _=>by kernel_rfl) (Or.inl hs)
  rwa [if_pos hs]at h
 by_cases hn:SC.nulB xs=true
 ·rw[if_neg hs,if_pos hn]
  have h:=callNull _ _ hx' xs H w hA h3 ht' hok' hk (fun _=>by kernel_rfl) (Or.inr hn)
  rwa [if_neg hs]at h
 rw[if_neg hs,if_neg hn];have hs':SC.okK [4,0,0] xs=true:=by simpa using hs
 have hn':SC.nulB xs=false:=by simpa using hn
 refine callDoG _ _ hx' (Proofs.enters_of Tryz.func193 (by kernel_rfl) rfl) (fun _=>by kernel_rfl) xs _ H w hA ht' hok' h3 hk hs' hn' fun W hW => ?_
 have hA':=hA.later hW;have hE':=hE.later hW;have hc:=all_chk hok';rw[doSign_eq];obtain⟨a,rfl⟩:=one_of (xs:=xs) (by omega)
 have hF:=okK1 hs' hn';exact doSign a H W hA'
theorem doLength_eq(l:List BV.V):doP fLength l=(0,nuV (at0 l).s.size):=by
 unfold doP;rw[if_neg (by decide)]
 rw[if_neg (by decide)]
 rw[if_neg (by decide)]
 rw[if_neg (by decide)]
 rw[if_pos rfl]
theorem callAnyLength(xs:List BV.V)(H:Nat)(w:World)(hx:SC.look (str fLength)=some (⟨⟨#[108,101,110,103,116,104]⟩,1,1,24,0,0,194⟩:SC.Fn))(hA:Args w H xs)(hm:xs.length≤2000)(hE:SC.Env w)(hf:AllFit xs) :
  Calls Tryz.prog 94 #[.string (str fLength),.slice (some ⟨H,0,none⟩) xs.length xs.length] w fun e w'=>e = .returned (vA (callX fLength (⟨⟨#[108,101,110,103,116,104]⟩,1,1,24,0,0,194⟩:SC.Fn) xs))∧Below w.heap.size w w':=by
 have hx':SC.look ⟨#[108,101,110,103,116,104]⟩=some (⟨⟨#[108,101,110,103,116,104]⟩,1,1,24,0,0,194⟩:SC.Fn):=hx
 show Calls Tryz.prog 94 #[.string ⟨#[108,101,110,103,116,104]⟩,_] w _
 unfold callX
 by_cases ht:SC.takesB 1 1 xs.length=false
 ·rw[if_pos (Or.inl ht)]
  exact callBad1 _ _ hx' xs H w ht
 have ht':SC.takesB 1 1 xs.length=true:=by simpa using ht
 by_cases hok:BV.allOk xs=false
 ·rw[if_pos (Or.inr hok)]
  exact callBad2 _ _ hx' xs H w hA hm ht' hok
 rw[if_neg (by rintro(h | h) <;> contradiction)]
 have hok':BV.allOk xs=true:=by simpa using hok
 rw[if_neg (by decide)]
 have hlen:(xs.length:Int)=1:=takes_eq ht' rfl (by decide)
 have h3:xs.length≤3:=by omega
 have hk:∀ j (h:j < xs.length),SC.KindOk ([(24:Int),0,0][j]'(by simp;omega)):=fun j h=>by
  match j,h with
  | 0,_=>exact Or.inr (Or.inr rfl)
  | 1,h=>exact absurd h (by omega)
  | 2,h=>exact absurd h (by omega)
  | j+3,h=>exact absurd h (by omega)
 by_cases hs:SC.okK [24,0,0] xs=false
 ·rw[if_pos hs]
  have h:=callNull _ _ hx' xs H w hA h3 ht' hok' hk (fun _=>by kernel_rfl) (Or.inl hs)
  rwa [if_pos hs]at h
 by_cases hn:SC.nulB xs=true
 ·rw[if_neg hs,if_pos hn]
  have h:=callNull _ _ hx' xs H w hA h3 ht' hok' hk (fun _=>by kernel_rfl) (Or.inr hn)
  rwa [if_neg hs]at h
 rw[if_neg hs,if_neg hn];have hs':SC.okK [24,0,0] xs=true:=by simpa using hs
 have hn':SC.nulB xs=false:=by simpa using hn
 refine callDoG _ _ hx' (Proofs.enters_of Tryz.func194 (by kernel_rfl) rfl) (fun _=>by kernel_rfl) xs _ H w hA ht' hok' h3 hk hs' hn' fun W hW => ?_
 have hA':=hA.later hW;have hE':=hE.later hW;have hc:=all_chk hok';rw[doLength_eq];obtain⟨a,rfl⟩:=one_of (xs:=xs) (by omega)
 have hF:=okK1 hs' hn';exact SC.length_do a H W hA' (by have:=(hf a (by simp)).2;omega)
theorem doLower_eq(l:List BV.V):doP fLower l=(0,txtV (SC.turnedB 65 (at0 l).s)):=by
 unfold doP;rw[if_neg (by decide)]
 rw[if_neg (by decide)]
 rw[if_neg (by decide)]
 rw[if_neg (by decide)]
 rw[if_neg (by decide)]
 rw[if_pos rfl]
theorem callAnyLower(xs:List BV.V)(H:Nat)(w:World)(hx:SC.look (str fLower)=some (⟨⟨#[108,111,119,101,114]⟩,1,1,8,0,0,195⟩:SC.Fn))(hA:Args w H xs)(hm:xs.length≤2000)(hE:SC.Env w)(hf:AllFit xs) :
  Calls Tryz.prog 94 #[.string (str fLower),.slice (some ⟨H,0,none⟩) xs.length xs.length] w fun e w'=>e = .returned (vA (callX fLower (⟨⟨#[108,111,119,101,114]⟩,1,1,8,0,0,195⟩:SC.Fn) xs))∧Below w.heap.size w w':=by
 have hx':SC.look ⟨#[108,111,119,101,114]⟩=some (⟨⟨#[108,111,119,101,114]⟩,1,1,8,0,0,195⟩:SC.Fn):=hx
 show Calls Tryz.prog 94 #[.string ⟨#[108,111,119,101,114]⟩,_] w _
 unfold callX
 by_cases ht:SC.takesB 1 1 xs.length=false
 ·rw[if_pos (Or.inl ht)]
  exact callBad1 _ _ hx' xs H w ht
 have ht':SC.takesB 1 1 xs.length=true:=by simpa using ht
 by_cases hok:BV.allOk xs=false
 ·rw[if_pos (Or.inr hok)]
  exact callBad2 _ _ hx' xs H w hA hm ht' hok
 rw[if_neg (by rintro(h | h) <;> contradiction)]
 have hok':BV.allOk xs=true:=by simpa using hok
 rw[if_neg (by decide)]
 have hlen:(xs.length:Int)=1:=takes_eq ht' rfl (by decide)
 have h3:xs.length≤3:=by omega
 have hk:∀ j (h:j < xs.length),SC.KindOk ([(8:Int),0,0][j]'(by simp;omega)):=fun j h=>by
  match j,h with
  | 0,_=>exact Or.inr (Or.inl rfl)
  | 1,h=>exact absurd h (by omega)
  | 2,h=>exact absurd h (by omega)
  | j+3,h=>exact absurd h (by omega)
 by_cases hs:SC.okK [8,0,0] xs=false
 ·rw[if_pos hs]
  have h:=callNull _ _ hx' xs H w hA h3 ht' hok' hk (fun _=>by kernel_rfl) (Or.inl hs)
  rwa [if_pos hs]at h
 by_cases hn:SC.nulB xs=true
 ·rw[if_neg hs,if_pos hn]
  have h:=callNull _ _ hx' xs H w hA h3 ht' hok' hk (fun _=>by kernel_rfl) (Or.inr hn)
  rwa [if_neg hs]at h
 rw[if_neg hs,if_neg hn];have hs':SC.okK [8,0,0] xs=true:=by simpa using hs
 have hn':SC.nulB xs=false:=by simpa using hn
 refine callDoG _ _ hx' (Proofs.enters_of Tryz.func195 (by kernel_rfl) rfl) (fun _=>by kernel_rfl) xs _ H w hA ht' hok' h3 hk hs' hn' fun W hW => ?_
 have hA':=hA.later hW;have hE':=hE.later hW;have hc:=all_chk hok';rw[doLower_eq];obtain⟨a,rfl⟩:=one_of (xs:=xs) (by omega)
 have hF:=okK1 hs' hn';have e:=txt_of (hc a (by simp)) (fit8 hF)
 rw[e]at hA';exact SC.lower_do a.s H W hA' (hf a (by simp)).2
theorem doUpper_eq(l:List BV.V):doP fUpper l=(0,txtV (SC.turnedB 97 (at0 l).s)):=by
 unfold doP;rw[if_neg (by decide)]
 rw[if_neg (by decide)]
 rw[if_neg (by decide)]
 rw[if_neg (by decide)]
 rw[if_neg (by decide)]
 rw[if_neg (by decide)]
 rw[if_pos rfl]
theorem callAnyUpper(xs:List BV.V)(H:Nat)(w:World)(hx:SC.look (str fUpper)=some (⟨⟨#[117,112,112,101,114]⟩,1,1,8,0,0,196⟩:SC.Fn))(hA:Args w H xs)(hm:xs.length≤2000)(hE:SC.Env w)(hf:AllFit xs) :
  Calls Tryz.prog 94 #[.string (str fUpper),.slice (some ⟨H,0,none⟩) xs.length xs.length] w fun e w'=>e = .returned (vA (callX fUpper (⟨⟨#[117,112,112,101,114]⟩,1,1,8,0,0,196⟩:SC.Fn) xs))∧Below w.heap.size w w':=by
 have hx':SC.look ⟨#[117,112,112,101,114]⟩=some (⟨⟨#[117,112,112,101,114]⟩,1,1,8,0,0,196⟩:SC.Fn):=hx
 show Calls Tryz.prog 94 #[.string ⟨#[117,112,112,101,114]⟩,_] w _
 unfold callX
 by_cases ht:SC.takesB 1 1 xs.length=false
 ·rw[if_pos (Or.inl ht)]
  exact callBad1 _ _ hx' xs H w ht
 have ht':SC.takesB 1 1 xs.length=true:=by simpa using ht
 by_cases hok:BV.allOk xs=false
 ·rw[if_pos (Or.inr hok)]
  exact callBad2 _ _ hx' xs H w hA hm ht' hok
 rw[if_neg (by rintro(h | h) <;> contradiction)]
 have hok':BV.allOk xs=true:=by simpa using hok
 rw[if_neg (by decide)]
 have hlen:(xs.length:Int)=1:=takes_eq ht' rfl (by decide)
 have h3:xs.length≤3:=by omega
 have hk:∀ j (h:j < xs.length),SC.KindOk ([(8:Int),0,0][j]'(by simp;omega)):=fun j h=>by
  match j,h with
  | 0,_=>exact Or.inr (Or.inl rfl)
  | 1,h=>exact absurd h (by omega)
  | 2,h=>exact absurd h (by omega)
  | j+3,h=>exact absurd h (by omega)
 by_cases hs:SC.okK [8,0,0] xs=false
 ·rw[if_pos hs]
  have h:=callNull _ _ hx' xs H w hA h3 ht' hok' hk (fun _=>by kernel_rfl) (Or.inl hs)
  rwa [if_pos hs]at h
 by_cases hn:SC.nulB xs=true
 ·rw[if_neg hs,if_pos hn]
  have h:=callNull _ _ hx' xs H w hA h3 ht' hok' hk (fun _=>by kernel_rfl) (Or.inr hn)
  rwa [if_neg hs]at h
 rw[if_neg hs,if_neg hn];have hs':SC.okK [8,0,0] xs=true:=by simpa using hs
 have hn':SC.nulB xs=false:=by simpa using hn
 refine callDoG _ _ hx' (Proofs.enters_of Tryz.func196 (by kernel_rfl) rfl) (fun _=>by kernel_rfl) xs _ H w hA ht' hok' h3 hk hs' hn' fun W hW => ?_
 have hA':=hA.later hW;have hE':=hE.later hW;have hc:=all_chk hok';rw[doUpper_eq];obtain⟨a,rfl⟩:=one_of (xs:=xs) (by omega)
 have hF:=okK1 hs' hn';have e:=txt_of (hc a (by simp)) (fit8 hF)
 rw[e]at hA';exact SC.upper_do a.s H W hA' (hf a (by simp)).2
theorem doTrim_eq(l:List BV.V):doP fTrim l=(0,txtV (SC.trimS (at0 l).s)):=by
 unfold doP;rw[if_neg (by decide)]
 rw[if_neg (by decide)]
 rw[if_neg (by decide)]
 rw[if_neg (by decide)]
 rw[if_neg (by decide)]
 rw[if_neg (by decide)]
 rw[if_neg (by decide)]
 rw[if_pos rfl]
theorem callAnyTrim(xs:List BV.V)(H:Nat)(w:World)(hx:SC.look (str fTrim)=some (⟨⟨#[116,114,105,109]⟩,1,1,8,0,0,197⟩:SC.Fn))(hA:Args w H xs)(hm:xs.length≤2000)(hE:SC.Env w)(hf:AllFit xs) :
  Calls Tryz.prog 94 #[.string (str fTrim),.slice (some ⟨H,0,none⟩) xs.length xs.length] w fun e w'=>e = .returned (vA (callX fTrim (⟨⟨#[116,114,105,109]⟩,1,1,8,0,0,197⟩:SC.Fn) xs))∧Below w.heap.size w w':=by
 have hx':SC.look ⟨#[116,114,105,109]⟩=some (⟨⟨#[116,114,105,109]⟩,1,1,8,0,0,197⟩:SC.Fn):=hx
 show Calls Tryz.prog 94 #[.string ⟨#[116,114,105,109]⟩,_] w _
 unfold callX
 by_cases ht:SC.takesB 1 1 xs.length=false
 ·rw[if_pos (Or.inl ht)]
  exact callBad1 _ _ hx' xs H w ht
 have ht':SC.takesB 1 1 xs.length=true:=by simpa using ht
 by_cases hok:BV.allOk xs=false
 ·rw[if_pos (Or.inr hok)]
  exact callBad2 _ _ hx' xs H w hA hm ht' hok
 rw[if_neg (by rintro(h | h) <;> contradiction)]
 have hok':BV.allOk xs=true:=by simpa using hok
 rw[if_neg (by decide)]
 have hlen:(xs.length:Int)=1:=takes_eq ht' rfl (by decide)
 have h3:xs.length≤3:=by omega
 have hk:∀ j (h:j < xs.length),SC.KindOk ([(8:Int),0,0][j]'(by simp;omega)):=fun j h=>by
  match j,h with
  | 0,_=>exact Or.inr (Or.inl rfl)
  | 1,h=>exact absurd h (by omega)
  | 2,h=>exact absurd h (by omega)
  | j+3,h=>exact absurd h (by omega)
 by_cases hs:SC.okK [8,0,0] xs=false
 ·rw[if_pos hs]
  have h:=callNull _ _ hx' xs H w hA h3 ht' hok' hk (fun _=>by kernel_rfl) (Or.inl hs)
  rwa [if_pos hs]at h
 by_cases hn:SC.nulB xs=true
 ·rw[if_neg hs,if_pos hn]
  have h:=callNull _ _ hx' xs H w hA h3 ht' hok' hk (fun _=>by kernel_rfl) (Or.inr hn)
  rwa [if_neg hs]at h
 rw[if_neg hs,if_neg hn];have hs':SC.okK [8,0,0] xs=true:=by simpa using hs
 have hn':SC.nulB xs=false:=by simpa using hn
 refine callDoG _ _ hx' (Proofs.enters_of Tryz.func197 (by kernel_rfl) rfl) (fun _=>by kernel_rfl) xs _ H w hA ht' hok' h3 hk hs' hn' fun W hW => ?_
 have hA':=hA.later hW;have hE':=hE.later hW;have hc:=all_chk hok';rw[doTrim_eq];obtain⟨a,rfl⟩:=one_of (xs:=xs) (by omega)
 have hF:=okK1 hs' hn';have e:=txt_of (hc a (by simp)) (fit8 hF)
 rw[e]at hA';exact SC.trim_do a.s H W hA' (hf a (by simp)).2
theorem doSubstr_eq(l:List BV.V):doP fSubstr l=dSubstr (at0 l) (at1 l) (at2 l):=by
 unfold doP;rw[if_neg (by decide)]
 rw[if_neg (by decide)]
 rw[if_neg (by decide)]
 rw[if_neg (by decide)]
 rw[if_neg (by decide)]
 rw[if_neg (by decide)]
 rw[if_neg (by decide)]
 rw[if_neg (by decide)]
 rw[if_pos rfl]
theorem callAnySubstr(xs:List BV.V)(H:Nat)(w:World)(hx:SC.look (str fSubstr)=some (⟨⟨#[115,117,98,115,116,114]⟩,3,3,24,4,4,198⟩:SC.Fn))(hA:Args w H xs)(hm:xs.length≤2000)(hE:SC.Env w)(hf:AllFit xs) :
  Calls Tryz.prog 94 #[.string (str fSubstr),.slice (some ⟨H,0,none⟩) xs.length xs.length] w fun e w'=>e = .returned (vA (callX fSubstr (⟨⟨#[115,117,98,115,116,114]⟩,3,3,24,4,4,198⟩:SC.Fn) xs))∧Below w.heap.size w w':=by
 have hx':SC.look ⟨#[115,117,98,115,116,114]⟩=some (⟨⟨#[115,117,98,115,116,114]⟩,3,3,24,4,4,198⟩:SC.Fn):=hx
 show Calls Tryz.prog 94 #[.string ⟨#[115,117,98,115,116,114]⟩,_] w _
 unfold callX
 by_cases ht:SC.takesB 3 3 xs.length=false
 ·rw[if_pos (Or.inl ht)]
  exact callBad1 _ _ hx' xs H w ht
 have ht':SC.takesB 3 3 xs.length=true:=by simpa using ht
 by_cases hok:BV.allOk xs=false
 ·rw[if_pos (Or.inr hok)]
  exact callBad2 _ _ hx' xs H w hA hm ht' hok
 rw[if_neg (by rintro(h | h) <;> contradiction)]
 have hok':BV.allOk xs=true:=by simpa using hok
 rw[if_neg (by decide)]
 have hlen:(xs.length:Int)=3:=takes_eq ht' rfl (by decide)
 have h3:xs.length≤3:=by omega
 have hk:∀ j (h:j < xs.length),SC.KindOk ([(24:Int),4,4][j]'(by simp;omega)):=fun j h=>by
  match j,h with
  | 0,_=>exact Or.inr (Or.inr rfl)
  | 1,_=>exact Or.inl rfl
  | 2,_=>exact Or.inl rfl
  | j+3,h=>exact absurd h (by omega)
 by_cases hs:SC.okK [24,4,4] xs=false
 ·rw[if_pos hs]
  have h:=callNull _ _ hx' xs H w hA h3 ht' hok' hk (fun _=>by kernel_rfl) (Or.inl hs)
  rwa [if_pos hs]at h
 by_cases hn:SC.nulB xs=true
 ·rw[if_neg hs,if_pos hn]
  have h:=callNull _ _ hx' xs H w hA h3 ht' hok' hk (fun _=>by kernel_rfl) (Or.inr hn)
  rwa [if_neg hs]at h
 rw[if_neg hs,if_neg hn];have hs':SC.okK [24,4,4] xs=true:=by simpa using hs
 have hn':SC.nulB xs=false:=by simpa using hn
 refine callDoG _ _ hx' (Proofs.enters_of Tryz.func198 (by kernel_rfl) rfl) (fun _=>by kernel_rfl) xs _ H w hA ht' hok' h3 hk hs' hn' fun W hW => ?_
 have hA':=hA.later hW;have hE':=hE.later hW;have hc:=all_chk hok';rw[doSubstr_eq];obtain⟨a,b,c,rfl⟩:=three_of (xs:=xs) (by omega)
 have hF:=okK3 hs' hn';have e1:=int_of (hc b (by simp)) (fit4 hF.2.1)
 have e2:=int_of (hc c (by simp)) (fit4 hF.2.2)
 show Calls _ _ _ _ fun e w'=>e = .returned (vA (dSubstr a b c))∧_
 unfold dSubstr
 by_cases h0:c.i < 0
 ·rw[if_pos h0]
  exact doSubstrNeg a b c H W hA' h0
 ·rw[if_neg h0]
  rw[e1,e2]at hA';exact SC.substr_do a b.i c.i H W hA' (by have:=(hf a (by simp)).2;omega) (hf b (by simp)).1 (by omega) (hf c (by simp)).1.2
theorem doInstr_eq(l:List BV.V):doP fInstr l=dInstr (at0 l) (at1 l):=by
 unfold doP;rw[if_neg (by decide)]
 rw[if_neg (by decide)]
 rw[if_neg (by decide)]
 rw[if_neg (by decide)]
 rw[if_neg (by decide)]
 rw[if_neg (by decide)]
 rw[if_neg (by decide)]
 rw[if_neg (by decide)]
 rw[if_neg (by decide)]
 rw[if_pos rfl]
theorem callAnyInstr(xs:List BV.V)(H:Nat)(w:World)(hx:SC.look (str fInstr)=some (⟨⟨#[105,110,115,116,114]⟩,2,2,8,8,0,199⟩:SC.Fn))(hA:Args w H xs)(hm:xs.length≤2000)(hE:SC.Env w)(hf:AllFit xs) :
  Calls Tryz.prog 94 #[.string (str fInstr),.slice (some ⟨H,0,none⟩) xs.length xs.length] w fun e w'=>e = .returned (vA (callX fInstr (⟨⟨#[105,110,115,116,114]⟩,2,2,8,8,0,199⟩:SC.Fn) xs))∧Below w.heap.size w w':=by
 have hx':SC.look ⟨#[105,110,115,116,114]⟩=some (⟨⟨#[105,110,115,116,114]⟩,2,2,8,8,0,199⟩:SC.Fn):=hx
 show Calls Tryz.prog 94 #[.string ⟨#[105,110,115,116,114]⟩,_] w _
 unfold callX
 by_cases ht:SC.takesB 2 2 xs.length=false
 ·rw[if_pos (Or.inl ht)]
  exact callBad1 _ _ hx' xs H w ht
 have ht':SC.takesB 2 2 xs.length=true:=by simpa using ht
 by_cases hok:BV.allOk xs=false
 ·rw[if_pos (Or.inr hok)]
  exact callBad2 _ _ hx' xs H w hA hm ht' hok
 rw[if_neg (by rintro(h | h) <;> contradiction)]
 have hok':BV.allOk xs=true:=by simpa using hok
 rw[if_neg (by decide)]
 have hlen:(xs.length:Int)=2:=takes_eq ht' rfl (by decide)
 have h3:xs.length≤3:=by omega
 have hk:∀ j (h:j < xs.length),SC.KindOk ([(8:Int),8,0][j]'(by simp;omega)):=fun j h=>by
  match j,h with
  | 0,_=>exact Or.inr (Or.inl rfl)
  | 1,_=>exact Or.inr (Or.inl rfl)
  | 2,h=>exact absurd h (by omega)
  | j+3,h=>exact absurd h (by omega)
 by_cases hs:SC.okK [8,8,0] xs=false
 ·rw[if_pos hs]
  have h:=callNull _ _ hx' xs H w hA h3 ht' hok' hk (fun _=>by kernel_rfl) (Or.inl hs)
  rwa [if_pos hs]at h
 by_cases hn:SC.nulB xs=true
 ·rw[if_neg hs,if_pos hn]
  have h:=callNull _ _ hx' xs H w hA h3 ht' hok' hk (fun _=>by kernel_rfl) (Or.inr hn)
  rwa [if_neg hs]at h
 rw[if_neg hs,if_neg hn];have hs':SC.okK [8,8,0] xs=true:=by simpa using hs
 have hn':SC.nulB xs=false:=by simpa using hn
 refine callDoG _ _ hx' (Proofs.enters_of Tryz.func199 (by kernel_rfl) rfl) (fun _=>by kernel_rfl) xs _ H w hA ht' hok' h3 hk hs' hn' fun W hW => ?_
 have hA':=hA.later hW;have hE':=hE.later hW;have hc:=all_chk hok';rw[doInstr_eq];obtain⟨a,b,rfl⟩:=two_of (xs:=xs) (by omega)
 have hF:=okK2 hs' hn';exact SC.instr_do a b H W hA' hE' (by have:=(hf a (by simp)).2;omega)
theorem doReplace_eq(l:List BV.V):doP fReplace l=dReplace (at0 l) (at1 l) (at2 l):=by
 unfold doP;rw[if_neg (by decide)]
 rw[if_neg (by decide)]
 rw[if_neg (by decide)]
 rw[if_neg (by decide)]
 rw[if_neg (by decide)]
 rw[if_neg (by decide)]
 rw[if_neg (by decide)]
 rw[if_neg (by decide)]
 rw[if_neg (by decide)]
 rw[if_neg (by decide)]
 rw[if_pos rfl]
theorem callAnyReplace(xs:List BV.V)(H:Nat)(w:World)(hx:SC.look (str fReplace)=some (⟨⟨#[114,101,112,108,97,99,101]⟩,3,3,8,8,8,200⟩:SC.Fn))(hA:Args w H xs)(hm:xs.length≤2000)(hE:SC.Env w)(hf:AllFit xs) :
  Calls Tryz.prog 94 #[.string (str fReplace),.slice (some ⟨H,0,none⟩) xs.length xs.length] w fun e w'=>e = .returned (vA (callX fReplace (⟨⟨#[114,101,112,108,97,99,101]⟩,3,3,8,8,8,200⟩:SC.Fn) xs))∧Below w.heap.size w w':=by
 have hx':SC.look ⟨#[114,101,112,108,97,99,101]⟩=some (⟨⟨#[114,101,112,108,97,99,101]⟩,3,3,8,8,8,200⟩:SC.Fn):=hx
 show Calls Tryz.prog 94 #[.string ⟨#[114,101,112,108,97,99,101]⟩,_] w _
 unfold callX
 by_cases ht:SC.takesB 3 3 xs.length=false
 ·rw[if_pos (Or.inl ht)]
  exact callBad1 _ _ hx' xs H w ht
 have ht':SC.takesB 3 3 xs.length=true:=by simpa using ht
 by_cases hok:BV.allOk xs=false
 ·rw[if_pos (Or.inr hok)]
  exact callBad2 _ _ hx' xs H w hA hm ht' hok
 rw[if_neg (by rintro(h | h) <;> contradiction)]
 have hok':BV.allOk xs=true:=by simpa using hok
 rw[if_neg (by decide)]
 have hlen:(xs.length:Int)=3:=takes_eq ht' rfl (by decide)
 have h3:xs.length≤3:=by omega
 have hk:∀ j (h:j < xs.length),SC.KindOk ([(8:Int),8,8][j]'(by simp;omega)):=fun j h=>by
  match j,h with
  | 0,_=>exact Or.inr (Or.inl rfl)
  | 1,_=>exact Or.inr (Or.inl rfl)
  | 2,_=>exact Or.inr (Or.inl rfl)
  | j+3,h=>exact absurd h (by omega)
 by_cases hs:SC.okK [8,8,8] xs=false
 ·rw[if_pos hs]
  have h:=callNull _ _ hx' xs H w hA h3 ht' hok' hk (fun _=>by kernel_rfl) (Or.inl hs)
  rwa [if_pos hs]at h
 by_cases hn:SC.nulB xs=true
 ·rw[if_neg hs,if_pos hn]
  have h:=callNull _ _ hx' xs H w hA h3 ht' hok' hk (fun _=>by kernel_rfl) (Or.inr hn)
  rwa [if_neg hs]at h
 rw[if_neg hs,if_neg hn];have hs':SC.okK [8,8,8] xs=true:=by simpa using hs
 have hn':SC.nulB xs=false:=by simpa using hn
 refine callDoG _ _ hx' (Proofs.enters_of Tryz.func200 (by kernel_rfl) rfl) (fun _=>by kernel_rfl) xs _ H w hA ht' hok' h3 hk hs' hn' fun W hW => ?_
 have hA':=hA.later hW;have hE':=hE.later hW;have hc:=all_chk hok';rw[doReplace_eq];obtain⟨a,b,c,rfl⟩:=three_of (xs:=xs) (by omega)
 have hF:=okK3 hs' hn';exact doReplace a b c H W hA' hE' (hf a (by simp)).2 (hf b (by simp)).2 (hf c (by simp)).2
theorem call_any(n:List UInt8)(xs:List BV.V)(H:Nat)(w:World)(hA:Args w H xs)(hm:xs.length≤2000)(hE:SC.Env w)(hf:AllFit xs) :
  Calls Tryz.prog 94 #[.string (str n),.slice (some ⟨H,0,none⟩) xs.length xs.length] w fun e w'=>e = .returned (vA (callP n xs))∧Below w.heap.size w w':=by
 unfold callP;cases hx:SC.look (str n)with
 | none=>exact callNo _ hx xs H w
 | some x =>
  obtain⟨hm',hn'⟩:=look_name hx;simp only[SC.fns,List.mem_cons,List.not_mem_nil,or_false]at hm';rcases hm' with rfl | rfl | rfl | rfl | rfl | rfl | rfl | rfl | rfl | rfl | rfl
  ·obtain rfl:n=fCoalesce:=str_injE (hn'.symm.trans rfl)
   exact callAnyCoalesce xs H w hx hA hm hE hf
  ·obtain rfl:n=fNullif:=str_injE (hn'.symm.trans rfl)
   exact callAnyNullif xs H w hx hA hm hE hf
  ·obtain rfl:n=fAbs:=str_injE (hn'.symm.trans rfl)
   exact callAnyAbs xs H w hx hA hm hE hf
  ·obtain rfl:n=fSign:=str_injE (hn'.symm.trans rfl)
   exact callAnySign xs H w hx hA hm hE hf
  ·obtain rfl:n=fLength:=str_injE (hn'.symm.trans rfl)
   exact callAnyLength xs H w hx hA hm hE hf
  ·obtain rfl:n=fLower:=str_injE (hn'.symm.trans rfl)
   exact callAnyLower xs H w hx hA hm hE hf
  ·obtain rfl:n=fUpper:=str_injE (hn'.symm.trans rfl)
   exact callAnyUpper xs H w hx hA hm hE hf
  ·obtain rfl:n=fTrim:=str_injE (hn'.symm.trans rfl)
   exact callAnyTrim xs H w hx hA hm hE hf
  ·obtain rfl:n=fSubstr:=str_injE (hn'.symm.trans rfl)
   exact callAnySubstr xs H w hx hA hm hE hf
  ·obtain rfl:n=fInstr:=str_injE (hn'.symm.trans rfl)
   exact callAnyInstr xs H w hx hA hm hE hf
  ·obtain rfl:n=fReplace:=str_injE (hn'.symm.trans rfl)
   exact callAnyReplace xs H w hx hA hm hE hf
end Go.Proofs.YtcicpjgnpcnnmaaGreatDoor
namespace Go.Proofs.YtcicpjgnpcnnmaaGreatDoor
open Go.RowKit
open SC (HV VBox zero_box Args)
open LG (RowBox)
def Runs(W:World)(fv:Value)(g:Nat)(n:Nat)(an:Ans):Prop:=∃ k cap,fv = .func (.func k) #[] cap∧Proofs.Enters Tryz.prog k∧Calls Tryz.prog k (#[.slice (some ⟨g,0,none⟩) n n]++cap) W fun e w'=>e = .returned (vA an)∧Below W.heap.size W w'
theorem fill_set{ys:List BV.V}{z:BV.V}{k n:Nat}(hn:n=ys.length)(h:k < n):(ys.take k++List.replicate (n - k) z).set k (ys[k]'(by omega))=ys.take (k+1)++List.replicate (n - (k+1)) z:=by
 have h1:n - k=(n - (k+1))+1:=by omega
 have h2:(ys.take k).length=k:=by rw[List.length_take];omega
 rw[List.set_append_right _ _ (by omega),h2,Nat.sub_self,h1,List.replicate_succ,List.set_cons_zero,List.take_succ_eq_append_getElem (by omega:k < ys.length),List.append_assoc]
 rfl
theorem vother{w:World}{b c o:Nat}{v:BV.V}(h:VBox w b v)(hne:b≠c)(u:Value):VBox (w.setCell ⟨c,o,none⟩ u) b v:=(Below.heap_setCell w _ u b hne).trans h
theorem b7other{w:World}{b c o:Nat}{c0 c1 c2 c3 c4 c5 c6:Value}(h:B7 w b c0 c1 c2 c3 c4 c5 c6)(hne:b≠c)(u:Value):B7 (w.setCell ⟨c,o,none⟩ u) b c0 c1 c2 c3 c4 c5 c6:=(Below.heap_setCell w _ u b hne).trans h
theorem eval_any(d:Deeds)(hdk:∀ (o n:List UInt8)(v:BV.V)(A:Option Addr)(r:List BV.V)(c:Nat)(W:World)(fv:Value)(g:Nat)(vs:List BV.V),DK W o n v A r.length c fv→Args W g vs→vs.length≤2000→AllFit vs→I64 v→SC.Env W→BV.RowAt W W.heap.size A r→r.length≤100000→Runs W fv g vs.length (opP d o n (ofV v) r vs))(r:List BV.V)(hr5:r.length≤100000)(e:E) :
  ∀ (x:Value) (S:Nat→Prop) (w:World) (A:Option Addr) (c:Nat),EAt S w e x→BV.RowAt w w.heap.size A r→SC.Env w→e.fit d r→Calls Tryz.prog 36 #[x,.slice A r.length c] w fun q w'=>q = .returned (vA (e.ev d r))∧Below w.heap.size w w':=by
 induction e using E.ind with
 | h o v t n l ih =>
  rintro x S w A c ⟨A',c',rfl,hsub⟩ hr hE ⟨hl2,hvi,hfit⟩;have hsubw:=hsub;obtain⟨hlc,hcm,hmem⟩:=hsub;have hm:l.length≤9223372036854775807:=Nat.le_trans hlc hcm;have hfx:=fitL_iff.1 hfit;have HI:=Hi (fun(k:Nat) (hk:k < l.length) (x:Value) (S:Nat→Prop) (w:World) (hx:EAt S w l[k] x) (hr:BV.RowAt w w.heap.size A r) (hE:SC.Env w)=>ih l[k] (List.getElem_mem hk) x S w A c hx hr hE (hfx l[k] (List.getElem_mem hk)).1)
  have HFX:Hid (∀ k (hk:k < l.length),Fit8 (l[k].ev d r).2):=fun k hk=>(hfx l[k] (List.getElem_mem hk)).2
  have hl3:=Hi hl2;have hmk:=fun W=>LG.make_vals l.length hl2 W
  have HDO:=Hi (fun L W=>deedOf_any o n t v L A r.length c W)
  have HDK:=Hi (fun W fv g vs=>hdk o n (toV v) A r c W fv g vs)
  have HOK:Hid ((∀ j (hj:j < l.length),(l[j].ev d r).1=0)→(E.mk o v t n l).ev d r=opP d o n (ofV (toV v)) r (l.map fun x=>(x.ev d r).2)):=fun h=>by
   have h0:(E.evL d r l).1=0:=evL_ok.2 fun x hx=>by
    obtain⟨j,hj,rfl⟩:=List.getElem_of_mem hx;exact h j hj
   rw[E.ev,if_pos h0,evL_vals h0,ofV_toV]
  have HERR:Hid (∀ k (hk:k < l.length),(∀ j (hj:j < l.length),j < k→(l[j].ev d r).1=0)→¬(l[k].ev d r).1=0→(E.mk o v t n l).ev d r=((l[k].ev d r).1,zW)):=fun k hk h0 h=>by
   have h1:=evL_first (d:=d) (r:=r) k hk h0 h;rw[E.ev,if_neg (by rw[h1];exact h),h1]
  have HVI:=Hi (show I64 (toV v) from hvi)
  generalize (E.mk o v t n l).ev d r=fin at *;obtain⟨fe,fk,fi,fs⟩:=fin;generalize hys:(l.map fun x=>(x.ev d r).2)=ys at *
  have hyl:l.length=ys.length:=by rw[←hys,List.length_map]
  have HYS:Hid (∀ k (hk:k < l.length) (hk':k < ys.length),ys[k]=(l[k].ev d r).2):=fun k hk hk'=>by subst hys;simp
  have HYF:Hid (AllFit ys):=fun u hu=>by
   subst hys;obtain⟨x,hx,rfl⟩:=List.mem_map.1 hu;exact(hfx x hx).2
  simp only[E.op,E.v,E.tb,E.nm,E.l,eVal,vA];unfold eVal at HDO;generalize str o=bo at *;generalize str t=bt at *;generalize str n=bn at *;generalize str v.s=bs at *;generalize v.k=vk at *;generalize v.i=vi at *;have hb0:=(Below.refl w.heap.size w).alloc (Nat.le_refl _) (.cells #[.string bo,.int .i64 vk,.int .i64 vi,.string bs,.string bt,.string bn,.slice A' l.length c'] 29);have z0:(w.alloc (.cells #[.string bo,.int .i64 vk,.int .i64 vi,.string bs,.string bt,.string bn,.slice A' l.length c'] 29)).heap.size=w.heap.size+1:=by simp
  have q0:=B7.made w (.string bo) (.int .i64 vk) (.int .i64 vi) (.string bs) (.string bt) (.string bn) (.slice A' l.length c');have q1:=q0.later ((Below.refl _ _).alloc (Nat.le_refl _) (.cells #[.int .i64 0,.int .i64 0,.string ⟨#[]⟩] 26));have v1:VBox ((w.alloc (.cells #[.string bo,.int .i64 vk,.int .i64 vi,.string bs,.string bt,.string bn,.slice A' l.length c'] 29)).alloc (.cells #[.int .i64 0,.int .i64 0,.string ⟨#[]⟩] 26)) (w.heap.size+1) zW:=by rw[←z0];exact raw0
  have hb1:=bthen hb0 ((Below.refl _ _).alloc (Nat.le_refl _) (.cells #[.int .i64 0,.int .i64 0,.string ⟨#[]⟩] 26));have hzz:((w.alloc (.cells #[.string bo,.int .i64 vk,.int .i64 vi,.string bs,.string bt,.string bn,.slice A' l.length c'] 29)).alloc (.cells #[.int .i64 0,.int .i64 0,.string ⟨#[]⟩] 26)).heap.size=w.heap.size+1+1:=by simp
  obtain⟨W1,hW1⟩:∃ W1:World,W1=((w.alloc (.cells #[.string bo,.int .i64 vk,.int .i64 vi,.string bs,.string bt,.string bn,.slice A' l.length c'] 29)).alloc (.cells #[.int .i64 0,.int .i64 0,.string ⟨#[]⟩] 26)):=⟨_,rfl⟩;rw[←hW1]at q1 v1 hb1 hzz;have hmk1:=hmk W1;have hb2:=(Below.refl W1.heap.size W1).alloc (Nat.le_refl _) (.cells (BV.flat (List.replicate l.length LG.zV)).toArray 26);have hr2:=heap_alloc_new W1 (.cells (BV.flat (List.replicate l.length LG.zV)).toArray 26);have hz2:(W1.alloc (.cells (BV.flat (List.replicate l.length LG.zV)).toArray 26)).heap.size=W1.heap.size+1:=by simp
  generalize W1.alloc (.cells (BV.flat (List.replicate l.length LG.zV)).toArray 26)=W2 at *;have HW1:=Hi hW1;have HB2x:=Hi hb2;have HR2x:=Hi hr2;have HZ2x:=Hi hz2;have HZZ:=Hi hzz;have HM:=Hi hmem;have Q1:=Hi q1;have V1:=Hi v1;have B1:=Hi hb1;have HR:=Hi hr;have HE:=Hi hE;have HYL:=Hi hyl;obtain⟨x0,x1,x2,x3,x4,x5,x6⟩:=q1.cells;obtain⟨t0,t1,t2,t3,t4,t5,t6⟩:=(q1.later hb2).cells;clear ih hmem hl2 hfit hfx hlc hcm hb0 z0 q0 q1 v1 hb1 hr hE hyl hys hvi hsubw hW1 hzz hmk hb2 hr2 hz2;go_enter Tryz.func36,Tryz.ntmps36
  go_wp2_with (rw[←HW1.out])
  go_loopw [18] (fun iv wr=>∃ k:Nat,k≤l.length∧iv = .int .i64 k∧Hid (∀ j (hj:j < l.length),j < k→(l[j].ev d r).1=0)∧Hid (Below w.heap.size w wr)∧W1.heap.size < wr.heap.size∧Hid (B7 wr w.heap.size (.string bo) (.int .i64 vk) (.int .i64 vi) (.string bs) (.string bt) (.string bn) (.slice A' l.length c'))∧Hid (VBox wr (w.heap.size+1) zW)∧Hid (RowBox wr W1.heap.size (ys.take k++List.replicate (l.length - k) zW))) (fun iv _=>l.length - (intOf iv).toNat)
  case atStart =>
   exact⟨0,Nat.zero_le _,rfl,fun j hj h=>by omega,bthen B1.out HB2x.out,by rw[HZ2x.out];omega,Q1.out.later HB2x.out,V1.out.later HB2x.out,HR2x.out⟩
  case round =>
   obtain⟨k,hk,rfl,HK,HB,hgl,HQ,HV,HRow⟩:=hrel
   by_cases hlt:k < l.length
   ·obtain⟨g,off,rfl,hS,hg,hl⟩:=HM.out (by omega)
    obtain⟨A2,c2,⟨g0,g1,g2,g3,g4,g5,g6⟩,hs⟩:=hl.get k hlt;have hkz:(k:Int) < (l.length:Int):=by omega
    have hky:k < ys.length:=by have:=HYL.out;omega
    have z:=HB.out.size;have i0:=(HB.out.cell (p:=⟨g,off+k*7,none⟩) hg).trans g0;have i1:=(HB.out.cell (p:=⟨g,off+k*7+1,none⟩) hg).trans g1;have i2:=(HB.out.cell (p:=⟨g,off+k*7+2,none⟩) hg).trans g2;have i3:=(HB.out.cell (p:=⟨g,off+k*7+3,none⟩) hg).trans g3;have i4:=(HB.out.cell (p:=⟨g,off+k*7+4,none⟩) hg).trans g4;have i5:=(HB.out.cell (p:=⟨g,off+k*7+5,none⟩) hg).trans g5;have i6:=(HB.out.cell (p:=⟨g,off+k*7+6,none⟩) hg).trans g6;obtain⟨Wa,Wb,hWa,hWb,b1,b2,hz,hb1,hb2⟩:=made7 wr (.string (str l[k].op)) (.int .i64 l[k].v.k) (.int .i64 l[k].v.i) (.string (str l[k].v.s)) (.string (str l[k].tb)) (.string (str l[k].nm)) (.slice A2 l[k].l.length c2);have f1:=b1.free;have y1:=b2.cells;obtain⟨p10,p11,p12,p13,p14,p15,p16⟩:=b1.cells;have hBb:=bthen HB.out hb2
    have hE:EAt S Wb l[k] (eVal l[k].op l[k].v l[k].tb l[k].nm (.slice A2 l[k].l.length c2)):=by
     have h0:EAt S w l[k] (eVal l[k].op l[k].v l[k].tb l[k].nm (.slice A2 l[k].l.length c2)):=⟨A2,c2,rfl,hs⟩;exact h0.later hBb
    have HC:=Hi (HI.out k hlt _ S Wb hE (HR.out.later hBb) (HE.out.later hBb));have HB2:=Hi hBb;have HQ2:=Hi (HQ.out.later hb2);have HV2:=Hi (HV.out.later hb2);have HRow2:=Hi (HRow.out.later hb2);have HWa:=Hi hWa;have HWb:=Hi hWb;have HSET:=Hi (fill_set (z:=zW) HYL.out hlt);have HYK:=Hi (HYS.out k hlt hky);have HLen:Hid (k < (ys.take k++List.replicate (l.length - k) zW).length):=by show _ < _;rw[List.length_append,List.length_take,List.length_replicate];omega
    have HER:=Hi (fun h=>HERR.out k hlt HK.out h)
    have HNX:Hid ((l[k].ev d r).1=0→∀ j (hj:j < l.length),j < k+1→(l[j].ev d r).1=0):=fun h j hj hjk=>by
     rcases Nat.lt_or_ge j k with h' | h'
     ·exact HK.out j hj h'
     ·obtain rfl:j=k:=by omega
      exact h
    obtain⟨f10,f11,f12,f13,f14,f15,f16⟩:=f1;obtain⟨y10,y11,y12,y13,y14,y15,y16⟩:=y1;unfold eVal at HC;rw[HYK.out]at HSET;generalize str l[k].op=bo' at *;generalize str l[k].tb=bt' at *;generalize str l[k].nm=bn' at *;generalize str l[k].v.s=bs' at *;generalize l[k].v.k=vk' at *;generalize l[k].v.i=vi' at *;generalize l[k].l.length=ln' at *;generalize l[k].ev d r=an at *;obtain⟨er,uk,ui,us⟩:=an;unfold vA at HC;simp only at HC HER HNX HSET;clear hWa hWb hs hl hE g0 g1 g2 g3 g4 g5 g6 b1 b2 hb1 hb2 HI HM hBb hky HYK x0 x1 x2 x3 x4 x5 x6 t0 t1 t2 t3 t4 t5 t6 hmk1
    go_wp2_with (first | (rw[←HWb.out]) | (rw[←HWa.out]))
    refine(HC.out).mono ?_;rintro e w3 ⟨rfl,b3⟩;have HB5:=Hi (bthen HB2.out b3);have HRow5:=Hi (HRow2.out.later b3);have HV5:=Hi (HV2.out.later b3);have HQ5:=Hi (HQ2.out.later b3);have hz5:=b3.size;have HGL5:Hid (W1.heap.size < w3.heap.size):=by show W1.heap.size < w3.heap.size;omega
    have HGL:=Hi hgl;clear hgl;clear b3 HB2 HRow2 HV2 HQ2 HC hz5 y10 y11 y12 y13 y14 y15 y16 p10 p11 p12 p13 p14 p15 p16 f10 f11 f12 f13 f14 f15 f16 i0 i1 i2 i3 i4 i5 i6 HWa HWb
    by_cases her:er=0
    ·subst her
     have HNX':=Hi (HNX.out rfl);have g0:=fun o=>((HRow5.out.alloc o).cell k HLen.out).1
     have g1:=fun o=>((HRow5.out.alloc o).cell k HLen.out).2.1
     have g2:=fun o=>((HRow5.out.alloc o).cell k HLen.out).2.2
     have f0:=fun o=>(HRow5.out.alloc o).free (k*3)
     have f1:=fun o=>(HRow5.out.alloc o).free (k*3+1)
     have f2:=fun o=>(HRow5.out.alloc o).free (k*3+2)
     clear HNX HER;go_wp2_with fail
     go_roundw
     case measure=>simp[intOf];omega
     case rel =>
      have hset:=(HRow5.out.alloc (.cells #[.int .i64 uk,.int .i64 ui,.string us] 26)).set k ⟨uk,ui,us⟩ HLen.out;rw[HSET.out]at hset;have hgl5:=HGL5.out;refine⟨k+1,by omega,by go_num,HNX',?_,by simp;omega,?_,?_,hset⟩
      ·exact((((bel_allocE HB5.out _).setCell (by show _≤W1.heap.size;have:=HZZ.out;omega) _).setCell (by show _≤W1.heap.size;have:=HZZ.out;omega) _).setCell (by show _≤W1.heap.size;have:=HZZ.out;omega) _)
      ·exact b7other (b7other (b7other (HQ5.out.later (bel_allocE (Below.refl _ _) _)) (by have:=HZZ.out;omega) _) (by have:=HZZ.out;omega) _) (by have:=HZZ.out;omega) _
      ·exact vother (vother (vother (HV5.out.later (bel_allocE (Below.refl _ _) _)) (by have:=HZZ.out;omega) _) (by have:=HZZ.out;omega) _) (by have:=HZZ.out;omega) _
    ·have her':(er != 0)=true:=by simpa using her
     have HER':=Hi (HER.out her);have hvb:=fun o=>HV5.out.later (bel_allocE (Below.refl w3.heap.size w3) o)
     have g0:=fun o=>(hvb o).cells.1
     have g1:=fun o=>(hvb o).cells.2.1
     have g2:=fun o=>(hvb o).cells.2.2
     have f0:=fun o=>(hvb o).free.1
     have f1:=fun o=>(hvb o).free.2.1
     have f2:=fun o=>(hvb o).free.2.2
     simp only[zW]at g0 g1 g2;clear HNX HER hvb her;go_wp2_with fail;exact bodyPost_ret (v:= .tuple #[.agg #[.int .i64 0,.int .i64 0,.string ⟨#[]⟩],.int .i64 er]) (by simp[results,Tryz.results36,go_sem,g0,g1,g2]) rfl ⟨by have h:=HER'.out;unfold zW at h;cases h;rfl,by first | exact SC.Below.set3 (bel_allocE HB5.out _) (by omega) _ _ _ | exact bel_allocE HB5.out _⟩
   ·have hke:k=l.length:=by omega
    have hkz:¬(k:Int) < (l.length:Int):=by omega
    have hfin:=HOK.out fun j hj=>HK.out j hj (by omega)
    have hargs:Args wr W1.heap.size ys:=by
     have h:=HRow.out;rw[hke,Nat.sub_self,List.replicate_zero,List.append_nil,List.take_of_length_le (by have:=HYL.out;omega)]at h
     exact h
    have HARGS:=Hi hargs;have HFIN:=Hi hfin;have HDO':=Hi (HDO.out (.slice A' l.length c') wr);obtain⟨y0,y1,y2,y3,y4,y5,y6⟩:=HQ.out.cells;clear HI HM HK hfin hargs hke HRow x0 x1 x2 x3 x4 x5 x6 t0 t1 t2 t3 t4 t5 t6 hmk1 HERR HOK HYS HFX;go_wp2_with fail;refine(HDO'.out).mono ?_;rintro e w4 ⟨fv,rfl,hdk4,b4⟩;have hB4:=bthen HB.out b4;obtain⟨kf,cap,rfl,hent,hrun⟩:=HDK.out w4 fv W1.heap.size ys hdk4 (HARGS.out.later b4) (by have:=HYL.out;have:=hl3.out;omega) HYF.out HVI.out (HE.out.later hB4) (HR.out.later hB4) hr5
    have hen:∀ (args:Array Value) (w:World),(callFunc kf args).run Tryz.prog w = .ok (.enter kf args) w:=hent;have HRUN:=Hi hrun;have HV4:=Hi (HV.out.later b4);have HB4:=Hi hB4;have HLN:=HYL.out;rw[←HLN]at HRUN;rw[HFIN.out.symm]at HRUN;unfold vA at HRUN;simp only at HRUN;clear hrun hB4 b4 hdk4 HDK hent y0 y1 y2 y3 y4 y5 y6 HFIN HARGS HYF HLN;go_wp2_with fail;refine(HRUN.out).mono ?_;rintro e w5 ⟨rfl,b5⟩;have HV5:=HV4.out.later b5;have HB5:=Hi (bthen HB4.out b5);obtain⟨g0,g1,g2⟩:=HV5.cells;obtain⟨f0,f1,f2⟩:=HV5.free;simp only[zW]at g0 g1 g2;clear b5 HV5 hen;go_wp2_with fail;exact bodyPost_ret (v:= .tuple #[.agg #[.int .i64 fk,.int .i64 fi,.string fs],.int .i64 fe]) (by simp[results,Tryz.results36,go_sem,g0,g1,g2]) rfl ⟨rfl,SC.Below.set3 HB5.out (by omega) _ _ _⟩
end Go.Proofs.YtcicpjgnpcnnmaaGreatDoor
