import Derived.Test.YtcicpjgnpcnnmaaGreatDoorShelf
import Derived.Lib.Hide
import Derived.Test.YtcicpjgnpcnnmaaGreatDoorProg
import Derived.WalkKit
import Derived.WalkSpells
import Derived.WalkLawsBesides
import Derived.Lib.Walk
import Derived.Deep.Light
import Derived.IntWalk
import Derived.BigQuiet
import Derived.Deep.QuietTactic
import Derived.Deep.LoopGhost
import Derived.WalkMore
import Derived.Lib.Strings
set_option maxRecDepth 100000
set_option maxHeartbeats 4000000
namespace Go.Proofs.YtcicpjgnpcnnmaaGreatDoor.BV
end Go.Proofs.YtcicpjgnpcnnmaaGreatDoor.BV
namespace Go.Proofs.YtcicpjgnpcnnmaaGreatDoor.LK
open BV
def okU(u:Int)(x:UInt8):Bool:=u == -1 || u == (x.toNat:Int)
def M:List Int→List UInt8→Bool
 | [],s=>s.isEmpty
 | u::p,s=>if u = -2 then (List.range (s.length+1)).any (fun k=>M p (s.drop k))else
   match s with
   | []=>false
   | x::t=>okU u x && M p t
theorem M_cons(u:Int)(p:List Int)(s:List UInt8):M (u::p) s=if u = -2 then (List.range (s.length+1)).any (fun k=>M p (s.drop k))else (match s with | []=>false | x::t=>okU u x && M p t):=rfl
theorem M_nil(s:List UInt8):M [] s=true↔s = []:=by simp[M]
theorem M_many(p:List Int)(s:List UInt8):M (-2::p) s=true↔∃ k,k≤s.length∧M p (s.drop k)=true:=by
 rw[M_cons,if_pos rfl,List.any_eq_true]
 constructor
 ·rintro⟨k,hk,h⟩;exact⟨k,by rw[List.mem_range]at hk;omega,h⟩
 ·rintro⟨k,hk,h⟩;exact⟨k,by rw[List.mem_range];omega,h⟩
theorem M_byte{u:Int}(hu:u ≠ -2)(p:List Int)(s:List UInt8):M (u::p) s=true↔∃ x t,s=x::t∧okU u x=true∧M p t=true:=by
 rw[M_cons,if_neg hu];cases s with
 | nil=>simp
 | cons x t=>simp[and_assoc]
theorem M_append(p q:List Int)(s:List UInt8):M (p++q) s=true↔∃ k,k≤s.length∧M p (s.take k)=true∧M q (s.drop k)=true:=by
 induction p generalizing s with
 | nil =>
  rw[List.nil_append]
  constructor
  ·intro h;exact⟨0,Nat.zero_le _,by simp[M],by simpa using h⟩
  ·rintro⟨k,hk,h1,h2⟩
   rw[M_nil]at h1
   have:k=0:=by
    have e:=congrArg List.length h1;rw[List.length_take]at e;have e2:min k s.length=0:=e
    omega
   subst this
   simpa using h2
 | cons u p ih =>
  rw[List.cons_append]
  by_cases hu:u = -2
  ·subst hu
   rw[M_many]
   constructor
   ·rintro⟨j,hj,h⟩
    obtain⟨k,hk,h1,h2⟩:=(ih _).1 h;rw[List.length_drop]at hk;refine⟨j+k,by omega,(M_many _ _).2 ⟨j,by rw[List.length_take];omega,?_⟩,by rwa [List.drop_drop]at h2⟩
    rwa [List.drop_take,show j+k - j=k by omega]
   ·rintro⟨k,hk,h1,h2⟩
    obtain⟨j,hj,h⟩:=(M_many _ _).1 h1;rw[List.length_take]at hj;refine⟨j,by omega,(ih _).2 ⟨k - j,by rw[List.length_drop];omega,?_,?_⟩⟩
    ·rwa [List.drop_take]at h
    ·rwa [List.drop_drop,show j+(k - j)=k by omega]
  ·rw[M_byte hu]
   constructor
   ·rintro⟨x,t,rfl,h0,h⟩
    obtain⟨k,hk,h1,h2⟩:=(ih _).1 h;exact⟨k+1,by simpa using hk,(M_byte hu _ _).2 ⟨x,t.take k,by simp,h0,h1⟩,by simpa using h2⟩
   ·rintro⟨k,hk,h1,h2⟩
    obtain⟨x,t,hs,h0,h⟩:=(M_byte hu _ _).1 h1;cases s with
    | nil=>simp at hs
    | cons y s =>
     cases k with
     | zero=>simp at hs
     | succ k =>
      rw[List.take_succ_cons]at hs
      injection hs with e1 e2
      subst e1 e2;exact⟨y,s,rfl,h0,(ih _).2 ⟨k,by simpa using hk,h,by simpa using h2⟩⟩
def fits:List Int→List UInt8→Bool
 | [],_=>true
 | _::_,[]=>false
 | u::p,x::t=>okU u x && fits p t
def Piece(p:List Int):Prop:=∀ u∈p,u ≠ -2
theorem fits_len:∀ {p:List Int}{s:List UInt8},fits p s=true→p.length≤s.length
 | [],_,_=>by simp
 | _::_,[],h=>by simp[fits]at h
 | u::p,x::t,h=>by
  rw[fits,Bool.and_eq_true]at h;have:=fits_len h.2
  simpa using this
theorem fits_M:∀ {p:List Int}(q:List Int)(s:List UInt8),Piece p→(M (p++q) s=true↔fits p s=true∧M q (s.drop p.length)=true)
 | [],q,s,_=>by simp[fits]
 | u::p,q,s,hp=>by
  have hu:u ≠ -2:=hp u (by simp)
  have hp':Piece p:=fun v hv=>hp v (by simp[hv])
  rw[List.cons_append,M_byte hu];cases s with
  | nil=>simp[fits]
  | cons x t =>
   constructor
   ·rintro⟨y,t',e,h0,h⟩
    injection e with e1 e2
    subst e1 e2;obtain⟨h1,h2⟩:=(fits_M q t hp').1 h;exact⟨by rw[fits,h0,h1];rfl,by simpa using h2⟩
   ·rintro⟨h1,h2⟩
    rw[fits,Bool.and_eq_true]at h1;exact⟨x,t,rfl,h1.1,(fits_M q t hp').2 ⟨h1.2,by simpa using h2⟩⟩
theorem fits_at:∀ {p:List Int}{s:List UInt8},(fits p s=true↔p.length≤s.length∧∀ i (h:i < p.length)(h':i < s.length),okU p[i] s[i]=true)
 | [],s=>by simp[fits]
 | u::p,[]=>by simp[fits]
 | u::p,x::t=>by
  rw[fits,Bool.and_eq_true,fits_at (p:=p) (s:=t)]
  constructor
  ·rintro⟨h0,h1,h2⟩
   refine⟨by simpa using h1,fun i h h' => ?_⟩
   cases i with
   | zero=>exact h0
   | succ i=>exact h2 i (by simpa using h) (by simpa using h')
  ·rintro⟨h1,h2⟩
   refine⟨h2 0 (by simp) (by simp),by simpa using h1,fun i h h' => ?_⟩
   have:=h2 (i+1) (by simpa using h) (by simpa using h')
   simpa using this
def fnd(p:List Int):List UInt8→Option Nat
 | []=>if fits p []then some 0 else none
 | x::t=>if fits p (x::t)then some 0 else (fnd p t).map (· + 1)
theorem fnd_some{p:List Int}:∀ {s:List UInt8}{i:Nat},fnd p s=some i→i≤s.length∧fits p (s.drop i)=true∧∀ j,j < i→fits p (s.drop j)=false
 | [],i,h=>by
  rw[fnd]at h
  split at h
  ·rename_i hf
   simp at h;subst h
   exact⟨by simp,by simpa using hf,fun j hj=>by omega⟩
  ·cases h
 | x::t,i,h=>by
  rw[fnd]at h
  split at h
  ·rename_i hf
   simp at h;subst h
   exact⟨by simp,by simpa using hf,fun j hj=>by omega⟩
  ·rename_i hf
   obtain⟨j,hj,rfl⟩:=Option.map_eq_some_iff.1 h;obtain⟨h1,h2,h3⟩:=fnd_some hj;refine⟨by simpa using h1,by simpa using h2,fun k hk => ?_⟩
   cases k with
   | zero=>simpa using hf
   | succ k=>simpa using h3 k (by omega)
theorem fnd_none{p:List Int}:∀ {s:List UInt8},fnd p s=none→∀ j,fits p (s.drop j)=false
 | [],h,j=>by
  rw[fnd]at h
  split at h
  ·cases h
  ·rename_i hf;simpa using hf
 | x::t,h,j=>by
  rw[fnd]at h
  split at h
  ·cases h
  ·rename_i hf
   cases j with
   | zero=>simpa using hf
   | succ j=>simpa using fnd_none (Option.map_eq_none_iff.1 h) j
theorem fnd_at{p:List Int}{s:List UInt8}{i:Nat}(h1:fits p (s.drop i)=true)(h2:∀ j,j < i→fits p (s.drop j)=false):fnd p s=some i:=by
 cases h:fnd p s with
 | none=>rw[fnd_none h i]at h1;cases h1
 | some k =>
  obtain⟨_,k2,k3⟩:=fnd_some h;rcases Nat.lt_trichotomy i k with hlt | rfl | hlt
  ·rw[k3 i hlt]at h1;cases h1
  ·rfl
  ·rw[h2 k hlt]at k2;cases k2
theorem fnd_no{p:List Int}{s:List UInt8}(h:∀ j,j≤s.length→fits p (s.drop j)=false):fnd p s=none:=by
 cases e:fnd p s with
 | none=>rfl
 | some k =>
  obtain⟨k1,k2,_⟩:=fnd_some e;rw[h k k1]at k2;cases k2
def fndI(p:List Int)(s:List UInt8):Int:=match fnd p s with | some i=>i | none => -1
theorem bool_iff{a b:Bool}(h:a=true↔b=true):a=b:=by cases a <;> cases b <;> simp_all
theorem fnd_take(p:List Int)(s:List UInt8):(fnd p (s.take (min p.length s.length))).isSome=fits p s:=by
 apply bool_iff
 constructor
 ·intro h
  obtain⟨i,hi⟩:=Option.isSome_iff_exists.1 h;obtain⟨h1,h2,_⟩:=fnd_some hi;have h3:=fits_len h2;rw[List.length_drop,List.length_take]at h3
  by_cases h0:p.length=0
  ·rw[List.length_eq_zero_iff.1 h0];cases s <;> rfl
  ·have:i=0:=by omega
   subst this;rw[List.drop_zero]at h2;rw[fits_at]at h2 ⊢;obtain⟨e1,e2⟩:=h2;refine⟨by rw[List.length_take]at e1;omega,fun i a b => ?_⟩
   have:=e2 i a (by rw[List.length_take];omega)
   simpa using this
 ·intro h
  have hl:=fits_len h
  have h2:fits p (s.take (min p.length s.length))=true:=by
   rw[fits_at]at h ⊢;refine⟨by rw[List.length_take];omega,fun i a b => ?_⟩
   rw[List.getElem_take];exact h.2 i a (by omega)
  rw[fnd_at (i:=0) (by simpa using h2) (fun j hj=>by omega)]
  rfl
theorem M_first{p:List Int}(hp:Piece p)(q:List Int)(s:List UInt8):M (p++q) s=(fits p s && M q (s.drop p.length)):=by
 apply bool_iff
 rw[Bool.and_eq_true];exact fits_M q s hp
theorem M_last{p:List Int}(hp:Piece p)(s:List UInt8):M (-2::p) s=(fnd p (s.drop (s.length - p.length))).isSome:=by
 apply bool_iff
 rw[M_many]
 constructor
 ·rintro⟨k,hk,h⟩
  have h':M (p ++ []) (s.drop k)=true:=by simpa using h
  obtain⟨h1,h2⟩:=(fits_M [] _ hp).1 h';rw[M_nil,List.drop_drop]at h2;have hl:=fits_len h1;rw[List.length_drop]at hl;have e:=congrArg List.length h2;rw[List.length_drop]at e
  simp at e
  have:k=s.length - p.length:=by omega
  subst this;rw[fnd_at (i:=0) (by simpa using h1) (fun j hj=>by omega)]
  rfl
 ·intro h
  obtain⟨i,hi⟩:=Option.isSome_iff_exists.1 h;obtain⟨h1,h2,_⟩:=fnd_some hi;rw[List.drop_drop]at h2;have h3:=fits_len h2;rw[List.length_drop]at h1 h3
  by_cases h0:p.length=0
  ·rw[List.length_eq_zero_iff.1 h0]
   exact⟨s.length,Nat.le_refl _,by simp[M]⟩
  ·have:i=0:=by omega
   subst this;refine⟨s.length - p.length,by omega,?_⟩
   have:M (p ++ []) (s.drop (s.length - p.length))=true:=(fits_M [] _ hp).2 ⟨by simpa using h2,by rw[M_nil,List.drop_drop,List.drop_eq_nil_iff];omega⟩
   simpa using this
theorem M_later{q:List Int}{s:List UInt8}{i k:Nat}(hik:i≤k)(h:M (-2::q) (s.drop k)=true):M (-2::q) (s.drop i)=true:=by
 rw[M_many]at h ⊢;obtain⟨j,hj,hm⟩:=h;rw[List.drop_drop]at hm;rcases Nat.le_total k s.length with hk | hk
 ·rw[List.length_drop]at hj
  exact⟨k+j - i,by rw[List.length_drop];omega,by rw[List.drop_drop,show i+(k+j - i)=k+j by omega];exact hm⟩
 ·refine⟨s.length - i,by rw[List.length_drop];omega,?_⟩
  rw[List.drop_drop];rw[List.drop_of_length_le (by omega)]at hm ⊢
  exact hm
theorem M_mid{p:List Int}(hp:Piece p)(q:List Int)(s:List UInt8):M (-2::(p ++ -2::q)) s=match fnd p s with | some i=>M (-2::q) (s.drop (i+p.length)) | none=>false:=by
 apply bool_iff
 rw[M_many]
 constructor
 ·rintro⟨k,hk,h⟩
  obtain⟨h1,h2⟩:=(fits_M _ _ hp).1 h;rw[List.drop_drop]at h2;cases e:fnd p s with
  | none=>rw[fnd_none e k]at h1;cases h1
  | some i =>
   obtain⟨_,_,i3⟩:=fnd_some e;rcases Nat.lt_or_ge k i with hlt | hge
   ·rw[i3 k hlt]at h1;cases h1
   ·exact M_later (by omega) h2
 ·intro h
  cases e:fnd p s with
  | none=>rw[e]at h;cases h
  | some i =>
   rw[e]at h;obtain⟨i1,i2,_⟩:=fnd_some e;exact⟨i,i1,(fits_M _ _ hp).2 ⟨i2,by rw[List.drop_drop];exact h⟩⟩
def fm:List Int→Option Nat
 | []=>none
 | u::p=>if u = -2 then some 0 else (fm p).map (· + 1)
theorem fm_none:∀ {us:List Int},fm us=none→Piece us
 | [],_=>fun u hu=>by cases hu
 | v::p,h=>by
  rw[fm]at h
  split at h
  ·cases h
  ·rename_i hv
   intro u hu;rcases List.mem_cons.1 hu with rfl | hu
   ·exact hv
   ·exact fm_none (Option.map_eq_none_iff.1 h) u hu
theorem fm_some:∀ {us:List Int}{k:Nat},fm us=some k→k < us.length∧Piece (us.take k)∧us=us.take k ++ -2::us.drop (k+1)
 | [],k,h=>by simp[fm]at h
 | v::p,k,h=>by
  rw[fm]at h
  split at h
  ·rename_i hv
   simp at h;subst h hv
   exact⟨by simp,fun u hu=>by simp at hu,by simp⟩
  ·rename_i hv
   obtain⟨j,hj,rfl⟩:=Option.map_eq_some_iff.1 h;obtain⟨h1,h2,h3⟩:=fm_some hj;refine⟨by simpa using h1,fun u hu => ?_,?_⟩
   ·rw[List.take_succ_cons]at hu
    rcases List.mem_cons.1 hu with rfl | hu
    ·exact hv
    ·exact h2 u hu
   ·rw[List.take_succ_cons,List.drop_succ_cons,List.cons_append,←h3]
theorem fm_at{us:List Int}{k:Nat}(hk:k < us.length)(h:us[k] = -2)(h2:∀ j (hj:j < us.length),j < k→us[j] ≠ -2):fm us=some k:=by
 induction us generalizing k with
 | nil=>simp at hk
 | cons u p ih =>
  rw[fm];cases k with
  | zero=>rw[if_pos (by simpa using h)]
  | succ k =>
   rw[if_neg (show ¬u = -2 from h2 0 (by simp) (by omega)),ih (by simpa using hk) (by simpa using h) (fun j hj hjk=>h2 (j+1) (by simpa using hj) (by omega))]
   rfl
theorem fm_no{us:List Int}(h2:∀ j (hj:j < us.length),us[j] ≠ -2):fm us=none:=by
 cases e:fm us with
 | none=>rfl
 | some k =>
  obtain⟨h1,_,h3⟩:=fm_some e
  exfalso
  apply h2 k h1
  have hl:(us.take k).length=k:=by rw[List.length_take];omega
  have:us[k]? = some (-2):=by rw[h3,List.getElem?_append_right (by omega),hl];simp
  rw[List.getElem?_eq_getElem h1]at this;exact Option.some.inj this
def fmI(us:List Int):Int:=match fm us with | some i=>i | none => -1
def sp(c:UInt8):Bool:=c == 37 || (c == 95 || c == 92)
def rd:List UInt8→Option (List Int)
 | []=>some []
 | c::r =>
  if c=37 then (rd r).map (-2 :: ·)else
  if c=95 then (rd r).map (-1 :: ·)else
  if c=92 then
   match r with
   | []=>none
   | d::r=>if sp d then (rd r).map ((d.toNat:Int) :: ·)else none
  else (rd r).map ((c.toNat:Int) :: ·)
theorem rd_cons(c:UInt8)(r:List UInt8):rd (c::r)=if c=37 then (rd r).map (-2 :: ·)else
  if c=95 then (rd r).map (-1 :: ·)else
  if c=92 then
   (match r with
   | []=>none
   | d::r=>if sp d then (rd r).map ((d.toNat:Int) :: ·)else none)
  else (rd r).map ((c.toNat:Int) :: ·):=by
 cases r <;> rfl
theorem omap_app{o:Option (List Int)}{a:List Int}{u:Int}:(o.map (u :: ·)).map (a ++ ·)=o.map ((a ++ [u]) ++ ·):=by
 cases o <;> simp
def Unit1(u:Int):Prop:=u = -2∨u = -1∨(0≤u∧u < 256)
theorem unit1_byte(c:UInt8):Unit1 (c.toNat:Int):=Or.inr (Or.inr ⟨by omega,by have:=UInt8.toNat_lt c;omega⟩)
theorem rd_units:∀ (n:Nat)(p:List UInt8)(a:List Int),p.length≤n→rd p=some a→a.length≤p.length∧∀ u∈a,Unit1 u
 | _,[],a,_,h=>by simp[rd]at h;subst h;exact⟨by simp,fun u hu=>by cases hu⟩
 | 0,c::p,a,hn,h=>by simp at hn
 | n+1,c::p,a,hn,h=>by
  have key:∀ (u:Int) (q:List UInt8) (b:List Int),Unit1 u→q.length≤p.length→rd q=some b→a=u::b→a.length≤(c::p).length∧∀ u∈a,Unit1 u:=by
   intro u q b hu hq hb e;obtain⟨i1,i2⟩:=rd_units n q b (by simp at hn;omega) hb
   subst e;refine⟨by simp;omega,fun v hv => ?_⟩
   rcases List.mem_cons.1 hv with rfl | hv
   ·exact hu
   ·exact i2 v hv
  rw[rd_cons]at h
  by_cases h1:c=37
  ·rw[if_pos h1]at h
   obtain⟨b,hb,e⟩:=Option.map_eq_some_iff.1 h;exact key (-2) p b (Or.inl rfl) (Nat.le_refl _) hb e.symm
  rw[if_neg h1]at h
  by_cases h2:c=95
  ·rw[if_pos h2]at h
   obtain⟨b,hb,e⟩:=Option.map_eq_some_iff.1 h;exact key (-1) p b (Or.inr (Or.inl rfl)) (Nat.le_refl _) hb e.symm
  rw[if_neg h2]at h
  by_cases h3:c=92
  ·rw[if_pos h3]at h
   cases p with
   | nil=>cases h
   | cons d p =>
    simp only at h
    by_cases h4:sp d=true
    ·rw[if_pos h4]at h
     obtain⟨b,hb,e⟩:=Option.map_eq_some_iff.1 h;exact key _ p b (unit1_byte d) (by simp) hb e.symm
    ·rw[if_neg h4]at h;cases h
  ·rw[if_neg h3]at h
   obtain⟨b,hb,e⟩:=Option.map_eq_some_iff.1 h;exact key _ p b (unit1_byte c) (Nat.le_refl _) hb e.symm
end Go.Proofs.YtcicpjgnpcnnmaaGreatDoor.LK
namespace Go.Proofs.YtcicpjgnpcnnmaaGreatDoor.BV
end Go.Proofs.YtcicpjgnpcnnmaaGreatDoor.BV
namespace Go.Proofs.YtcicpjgnpcnnmaaGreatDoor.LK
open BV
theorem sp_iff{c:UInt8}:sp c=true↔c=37∨c=95∨c=92:=by simp[sp]
theorem M_all(s:List UInt8):M [-2] s=true:=(M_many [] s).2 ⟨s.length,Nat.le_refl _,by simp[M]⟩
theorem take_last{s:List UInt8}{i:Nat}(h:i < s.length):s.take (i+1)=s.take i ++ [s[i]]:=List.take_succ_eq_append_getElem h
theorem dp_many(l:List Int)(s:List UInt8)(i:Nat)(h:i < s.length):M (l ++ [-2]) (s.take (i+1))=(M l (s.take (i+1)) || M (l ++ [-2]) (s.take i)):=by
 apply bool_iff
 rw[Bool.or_eq_true,M_append,M_append]
 constructor
 ·rintro⟨k,hk,h1,h2⟩
  rw[List.length_take]at hk;rw[List.take_take]at h1
  by_cases e:k=i+1
  ·subst e
   rw[Nat.min_self]at h1;exact Or.inl h1
  ·refine Or.inr ⟨k,by rw[List.length_take];omega,?_,M_all _⟩
   rw[List.take_take,show min k i=k by omega]
   rwa [show min k (i+1)=k by omega]at h1
 ·rintro(h1 | ⟨k,hk,h1,h2⟩)
  ·exact⟨i+1,by rw[List.length_take];omega,by rwa [List.take_take,Nat.min_self],M_all _⟩
  ·rw[List.length_take]at hk
   rw[List.take_take]at h1;refine⟨k,by rw[List.length_take];omega,?_,M_all _⟩
   rw[List.take_take,show min k (i+1)=k by omega]
   rwa [show min k i=k by omega]at h1
theorem dp_many0(l:List Int)(s:List UInt8):M (l ++ [-2]) (s.take 0)=M l (s.take 0):=by
 apply bool_iff
 rw[M_append]
 constructor
 ·rintro⟨k,hk,h1,h2⟩;simpa using h1
 ·intro h;exact⟨0,by simp,by simpa using h,M_all _⟩
theorem dp_byte0{u:Int}(hu:u ≠ -2)(l:List Int)(s:List UInt8):M (l ++ [u]) (s.take 0)=false:=by
 cases e:M (l ++ [u]) (s.take 0)with
 | false=>rfl
 | true =>
  obtain⟨k,hk,h1,h2⟩:=(M_append _ _ _).1 e;obtain⟨x,t,h3,_⟩:=(M_byte hu _ _).1 h2
  simp at h3
theorem dp_byte{u:Int}(hu:u ≠ -2)(l:List Int)(s:List UInt8)(i:Nat)(h:i < s.length):M (l ++ [u]) (s.take (i+1))=(M l (s.take i) && okU u s[i]):=by
 apply bool_iff
 rw[Bool.and_eq_true,M_append]
 constructor
 ·rintro⟨k,hk,h1,h2⟩
  obtain⟨x,t,h3,h4,h5⟩:=(M_byte hu _ _).1 h2;rw[M_nil]at h5;subst h5;have hl:=congrArg List.length h3;rw[List.length_drop,List.length_take]at hl
  simp at hl
  have:k=i:=by rw[List.length_take]at hk;omega
  subst this;rw[List.take_take,show min k (k+1)=k by omega]at h1
  refine⟨h1,?_⟩;rw[take_last h,List.drop_left' (by rw[List.length_take];omega)]at h3
  injection h3 with h3 _
  rw[h3];exact h4
 ·rintro⟨h1,h2⟩
  refine⟨i,by rw[List.length_take];omega,by rwa [List.take_take,show min i (i+1)=i by omega],(M_byte hu _ _).2 ⟨s[i],[],?_,h2,by simp[M]⟩⟩
  rw[take_last h,List.drop_left' (by rw[List.length_take];omega)]
end Go.Proofs.YtcicpjgnpcnnmaaGreatDoor.LK
namespace Go.Proofs.YtcicpjgnpcnnmaaGreatDoor.BV
end Go.Proofs.YtcicpjgnpcnnmaaGreatDoor.BV
namespace Go.Proofs.YtcicpjgnpcnnmaaGreatDoor.LK
open BV
open Go.RowKit
theorem ret_int{k:IntKind}{a b:Int}(h:a=b):Ending.returned (.int k a) = .returned (.int k b):=by rw[h]
theorem ret_bool{a b:Bool}(h:a=b):Ending.returned (.bool a) = .returned (.bool b):=by rw[h]
theorem size_list(s:ByteArray):s.data.toList.length=s.size:=by simp
theorem bthen{w w1 w2:World}(h:Below w.heap.size w w1)(h':Below w1.heap.size w1 w2):Below w.heap.size w w2:=h.trans (h'.mono h.size)
def UAt(w:World)(A:Option Addr)(us:List Int):Prop:=0 < us.length→∃ b off,A=some ⟨b,off,none⟩∧b < w.heap.size∧∀ j (h:j < us.length),w.cell? ⟨b,off+j,none⟩=some (.int .i16 us[j])
theorem UAt.later{w w':World}{A:Option Addr}{us:List Int}(h:UAt w A us)(hb:Below w.heap.size w w'):UAt w' A us:=fun h0=>by
 obtain⟨b,off,hA,hlt,hc⟩:=h h0;exact⟨b,off,hA,Nat.lt_of_lt_of_le hlt hb.size,fun j hj=>(hb.cell (p:=⟨b,_,none⟩) hlt).trans (hc j hj)⟩
theorem UAt.drew{w:World}{A:Option Addr}{us:List Int}(h:UAt w A us):UAt w.drew A us:=h.later (Below.refl _ w).drew
theorem UAt.take{w:World}{A:Option Addr}{us:List Int}(h:UAt w A us)(k:Nat):UAt w A (us.take k):=fun h0=>by
 rw[List.length_take]at h0;obtain⟨b,off,hA,hlt,hc⟩:=h (by omega)
 refine⟨b,off,hA,hlt,fun j hj => ?_⟩
 rw[List.getElem_take];exact hc j (by rw[List.length_take]at hj;omega)
theorem UAt.drop{w:World}{b off:Nat}{us:List Int}(h:UAt w (some ⟨b,off,none⟩) us)(k:Nat):UAt w (some ⟨b,off+k,none⟩) (us.drop k):=fun h0=>by
 rw[List.length_drop]at h0;obtain⟨b',off',hA,hlt,hc⟩:=h (by omega)
 simp at hA
 obtain⟨rfl,rfl⟩:=hA;refine⟨b,off+k,rfl,hlt,fun j hj => ?_⟩
 rw[List.getElem_drop,Nat.add_assoc];exact hc (k+j) (by rw[List.length_drop]at hj;omega)
theorem UAt.nil{w:World}{A:Option Addr}{us:List Int}(h:us = []):UAt w A us:=fun h0=>by rw[h]at h0;simp at h0
end Go.Proofs.YtcicpjgnpcnnmaaGreatDoor.LK
namespace Go.Proofs.YtcicpjgnpcnnmaaGreatDoor.BV
end Go.Proofs.YtcicpjgnpcnnmaaGreatDoor.BV
namespace Go.Proofs.YtcicpjgnpcnnmaaGreatDoor.LK
open BV
open Go.RowKit
theorem no_step{us:List Int}{k:Nat}(hk:k < us.length)(h:∀ j (hj:j < us.length),j < k→us[j] ≠ -2)(h0:us[k] ≠ -2):∀ j (hj:j < us.length),j < k+1→us[j] ≠ -2:=by
 intro j hj hjk
 by_cases e:j=k
 ·subst e;exact h0
 ·exact h j hj (by omega)
theorem fmI_at{us:List Int}{k:Nat}(hk:k < us.length)(h:us[k] = -2)(h2:∀ j (hj:j < us.length),j < k→us[j] ≠ -2):(k:Int)=fmI us:=by
 unfold fmI;rw[fm_at hk h h2]
theorem fmI_no{us:List Int}{k:Nat}(hk:k=us.length)(h2:∀ j (hj:j < us.length),j < k→us[j] ≠ -2):(-1:Int)=fmI us:=by
 unfold fmI;rw[fm_no (fun j hj=>h2 j hj (by omega))]
theorem index_any(us:List Int)(A:Option Addr)(c:Nat)(w:World)(h:UAt w A us)(hm:us.length≤100000000) :
  Calls Tryz.prog 216 #[.slice A us.length c,.int .i16 (-2)] w fun e w'=>e = .returned (.int .i64 (fmI us))∧w=w':=by
 obtain⟨n,hn⟩:∃ n,n=us.length:=⟨_,rfl⟩;have HN:=Hi hn;rw[←hn]at hm ⊢;clear hn;have HU:=Hi h;clear h;go_enter Tryz.func216,Tryz.ntmps216;go_wp2_with fail
 go_loop [8] (fun i=>∃ k:Nat,k≤n∧i = .int .i64 k∧Hid (∀ j (hj:j < us.length),j < k→us[j] ≠ -2)) (fun i=>n - (intOf i).toNat)
 case atStart=>exact⟨0,Nat.zero_le _,rfl,fun j hj hjk=>by omega⟩
 case round =>
  obtain⟨k,hk,rfl,HJ⟩:=hrel
  by_cases hlt:k < n
  ·have hkx:k < us.length:=by rw[←HN.out];exact hlt
   obtain⟨b,off,hA,hbl,hc⟩:=HU.out (by omega)
   subst hA;have d1:=hc k hkx;clear hc
   by_cases h0:us[k] = -2
   ·have H0:=Hi h0
    rw[h0]at d1;clear h0;go_wp2_with fail
    go_ret
    exact⟨ret_int (fmI_at hkx H0.out HJ.out),rfl⟩
   ·have H0:=Hi h0
    have h1:((-2:Int) == us[k])=false:=by simpa using fun e=>h0 e.symm
    clear h0;generalize us[k]=u at d1 h1;go_wp2_with fail
    go_round
    case rel=>exact⟨k+1,by omega,by go_num,no_step hkx HJ.out H0.out⟩
    case measure=>simp[intOf];omega
  ·obtain rfl:k=n:=by omega
   go_wp2_with fail
   go_ret
   exact⟨ret_int (fmI_no HN.out HJ.out),rfl⟩
end Go.Proofs.YtcicpjgnpcnnmaaGreatDoor.LK
namespace Go.Proofs.YtcicpjgnpcnnmaaGreatDoor.BV
end Go.Proofs.YtcicpjgnpcnnmaaGreatDoor.BV
namespace Go.Proofs.YtcicpjgnpcnnmaaGreatDoor.LK
open BV
open Go.RowKit
theorem cut_none(us:List Int)(A:Option Addr)(c:Nat)(w:World)(h:UAt w A us)(hm:us.length≤100000000)(hf:fm us=none) :
  Calls Tryz.prog 202 #[.slice A us.length c] w fun e w'=>e = .returned (.tuple #[.slice A us.length c,.slice none 0 0,.bool false])∧Below w.heap.size w w':=by
 have HI:=index_any us A c w h hm;rw[show fmI us = -1 by unfold fmI;rw[hf]]at HI
 generalize us.length=n at *;clear h hf;go_enter Tryz.func202,Tryz.ntmps202
 go_wp2_with (go_at_call 216;refine HI.mono ?_;rintro e w' ⟨rfl,rfl⟩)
 go_ret3
 exact⟨rfl,Below.refl _ _⟩
theorem below_drewN(w:World)(n:Nat):Below w.heap.size w (w.drewN n):=⟨rfl,rfl,rfl,Nat.le_refl _,fun _ _=>rfl⟩
def addrAt(A:Option Addr)(c k:Nat):Option Addr:=if c=k then A else A.map fun a=>a.add k
theorem UAt.addr{w:World}{A:Option Addr}{us:List Int}{c:Nat}(h:UAt w A us)(hc:us.length≤c)(k:Nat):UAt w (addrAt A c k) (us.drop k):=fun h0=>by
 have h1:=h0;rw[List.length_drop]at h1;obtain⟨b,off,rfl,_,_⟩:=h (by omega)
 unfold addrAt;rw[if_neg (by omega),show(some (⟨b,off,none⟩:Addr)).map (fun a=>a.add k)=some ⟨b,off+k,none⟩ by simp[Addr.add]]
 exact h.drop k h0
theorem cut_some(us:List Int)(b off:Nat)(c k:Nat)(w:World)(h:UAt w (some ⟨b,off,none⟩) us)(hm:us.length≤100000000)(hcap:us.length≤c)(hf:fm us=some k) :
  Calls Tryz.prog 202 #[.slice (some ⟨b,off,none⟩) us.length c] w fun e w'=>e = .returned (.tuple #[.slice (some ⟨b,off,none⟩) k c,.slice (addrAt (some ⟨b,off,none⟩) c (k+1)) (us.length - (k+1)) (c - (k+1)),.bool true])∧Below w.heap.size w w':=by
 have HI:=index_any us _ c w h hm;rw[show fmI us=k by unfold fmI;rw[hf]]at HI
 have hk:=(fm_some hf).1;generalize us.length=n at *;clear h hf;go_enter Tryz.func202,Tryz.ntmps202
 go_wp2_with (go_at_call 216;refine HI.mono ?_;rintro e w' ⟨rfl,rfl⟩)
 have e1:IntKind.i64.wrap ((k:Int)+1)=(k:Int)+1:=IntWalk.i64_in _ (by omega)
 have e2:((k:Int)+1).toNat=k+1:=by omega
 go_quiet (fail)
 go_wp2
 all_goals
  go_ret3
  refine⟨?_,below_drewN w nq⟩;clear HI e1 e2 hk hcap hm
  simp_all [addrAt,Addr.add]
end Go.Proofs.YtcicpjgnpcnnmaaGreatDoor.LK
namespace Go.Proofs.YtcicpjgnpcnnmaaGreatDoor.BV
end Go.Proofs.YtcicpjgnpcnnmaaGreatDoor.BV
namespace Go.Proofs.YtcicpjgnpcnnmaaGreatDoor.LK
open BV
open Go.RowKit
theorem fits_no{p:List Int}{l:List UInt8}{i k:Nat}(hk:k < p.length)(hi:i+k < l.length)(h:okU p[k] l[i+k]=false):fits p (l.drop i)=false:=by
 cases e:fits p (l.drop i)with
 | false=>rfl
 | true =>
  have h1:=(fits_at.1 e).2 k hk (by rw[List.length_drop];omega)
  rw[List.getElem_drop,h]at h1;cases h1
theorem fits_yes{p:List Int}{l:List UInt8}{i:Nat}(hi:i+p.length≤l.length)(h:∀ k (hk:k < p.length)(hl:i+k < l.length),okU p[k] l[i+k]=true):fits p (l.drop i)=true:=by
 rw[fits_at];refine⟨by rw[List.length_drop];omega,fun k hk hl => ?_⟩
 rw[List.getElem_drop];exact h k hk (by rw[List.length_drop]at hl;omega)
theorem fndI_at{p:List Int}{l:List UInt8}{i:Nat}(h1:fits p (l.drop i)=true)(h2:∀ j,j < i→fits p (l.drop j)=false):(i:Int)=fndI p l:=by
 unfold fndI;rw[fnd_at h1 h2]
theorem fndI_no{p:List Int}{l:List UInt8}{i:Nat}(hi:l.length < i+p.length)(h2:∀ j,j < i→fits p (l.drop j)=false):(-1:Int)=fndI p l:=by
 unfold fndI;rw[fnd_no (fun j hj => ?_)]
 by_cases e:j < i
 ·exact h2 j e
 ·cases e2:fits p (l.drop j)with
  | false=>rfl
  | true =>
   have:=fits_len e2;rw[List.length_drop]at this
   omega
theorem all_step{P:Nat→Prop}{k:Nat}(h:∀ j,j < k→P j)(h0:P k):∀ j,j < k+1→P j:=by
 intro j hj
 by_cases e:j=k
 ·subst e;exact h0
 ·exact h j (by omega)
def Stood(p:List Int)(l:List UInt8)(i k:Nat):Prop:=∀ j (hj:j < p.length)(hl:i+j < l.length),j < k→okU p[j] l[i+j]=true
theorem Stood.step{p:List Int}{l:List UInt8}{i k:Nat}(h:Stood p l i k)(hk:k < p.length)(hl:i+k < l.length)(h0:okU p[k] l[i+k]=true):Stood p l i (k+1):=by
 intro j hj hl' hjk
 by_cases e:j=k
 ·subst e;exact h0
 ·exact h j hj hl' (by omega)
theorem wrap_byte(x:UInt8):IntKind.i16.wrap (x.toNat:Int)=x.toNat:=by
 have:=UInt8.toNat_lt x
 simp[IntKind.wrap,IntKind.bits,IntKind.signed];omega
theorem ok_no{u:Int}{x:UInt8}(h1:¬u = -1)(h:(u != IntKind.i16.wrap (x.toNat:Int))=true):okU u x=false:=by
 rw[wrap_byte]at h;unfold okU
 simp at h ⊢
 exact⟨h1,h⟩
theorem ok_yes{u:Int}{x:UInt8}(h:(u != IntKind.i16.wrap (x.toNat:Int))=false):okU u x=true:=by
 rw[wrap_byte]at h;unfold okU
 simp at h ⊢
 exact Or.inr h
theorem ok_one{u:Int}{x:UInt8}(h:u = -1):okU u x=true:=by unfold okU;simp[h]
theorem find_any(p:List Int)(s:ByteArray)(A:Option Addr)(c:Nat)(w:World)(h:UAt w A p)(hm:p.length≤100000000)(hs:s.size≤100000000) :
  Calls Tryz.prog 203 #[.string s,.slice A p.length c] w fun e w'=>e = .returned (.int .i64 (fndI p s.data.toList))∧w=w':=by
 obtain⟨n,hn⟩:∃ n,n=p.length:=⟨_,rfl⟩;have HN:=Hi hn;rw[←hn]at hm ⊢;clear hn;have HU:=Hi h;clear h;have HL:Hid (s.data.toList.length=s.size):=size_list s;go_enter Tryz.func203,Tryz.ntmps203;go_wp2_with fail
 go_step3
 go_wp2_with fail
 go_step3
 go_wp2_with fail
 go_loopg [14] (s.size+1 - n) (fun g s14 wx=>∃ i:Nat,i+g=s.size+1 - n∧s14 = .int .i64 i∧Hid (∀ j,j < i→fits p (s.data.toList.drop j)=false)∧w=wx)
 case atStart=>exact⟨0,by omega,rfl,fun j hj=>by omega,rfl⟩
 case round =>
  obtain⟨i,hig,rfl,HI,rfl⟩:=hrel;cases gk with
  | zero =>
   have hiz:¬((i:Int) < (s.size:Int) - (n:Int)+1):=by omega
   go_wp2_with fail
   try rw[Exit.noGoto_ret]
   go_ret
   exact⟨ret_int (fndI_no (i:=i) (by rw[HL.out,←HN.out];omega) HI.out),rfl⟩
  | succ g =>
   have hiz:(i:Int) < (s.size:Int) - (n:Int)+1:=by omega
   go_wp2_with fail
   go_loopg [19] n (fun g2 s19 wy=>∃ k:Nat,k+g2=n∧s19 = .int .i64 k∧Hid (Stood p s.data.toList i k)∧w=wy)
   case atStart=>exact⟨0,by omega,rfl,fun j hj hl hjk=>by omega,rfl⟩
   case round =>
    obtain⟨k,hkg,rfl,HK,rfl⟩:=hrel;cases gk with
    | zero =>
     have hkz:¬((k:Int) < (n:Int)):=by omega
     go_wp2_with fail
     try rw[Exit.noGoto_ret]
     go_ret
     exact⟨ret_int (fndI_at (fits_yes (by rw[HL.out,←HN.out];omega) (fun j hj hl=>HK.out j hj hl (by rw[←HN.out]at hj;omega))) HI.out),rfl⟩
    | succ g2 =>
     have hkz:(k:Int) < (n:Int):=by omega
     have hkp:k < p.length:=by rw[←HN.out];omega
     obtain⟨b,off,hA,hbl,hc⟩:=HU.out (by omega)
     subst hA;have d1:=hc k hkp;clear hc
     by_cases h1:p[k] = -1
     ·rw[h1]at d1
      have H1:=Hi h1;clear h1;go_wp2_with fail
      go_roundg g2
      case measure=>omega
      case rel=>exact⟨k+1,by omega,by go_num,HK.out.step hkp (by rw[HL.out];omega) (ok_one H1.out),rfl⟩
     ·have H1:=Hi h1
      have h2:(p[k] != -1)=true:=by simpa using h1
      clear h1;obtain⟨u,hu⟩:∃ u,u=p[k]:=⟨_,rfl⟩;rw[←hu]at d1 h2 H1;have HP:=Hi hu;clear hu;go_wp2_with fail
      ·go_roundg g
       case measure=>omega
       case rel=>exact⟨i+1,by omega,by go_num,all_step HI.out (fits_no hkp (by rw[HL.out];omega) (by rw[←HP.out];exact ok_no H1.out (by assumption))),rfl⟩
      ·go_roundg g2
       case measure=>omega
       case rel=>exact⟨k+1,by omega,by go_num,HK.out.step hkp (by rw[HL.out];omega) (by rw[←HP.out];exact ok_yes (by assumption)),rfl⟩
end Go.Proofs.YtcicpjgnpcnnmaaGreatDoor.LK
namespace Go.Proofs.YtcicpjgnpcnnmaaGreatDoor.BV
end Go.Proofs.YtcicpjgnpcnnmaaGreatDoor.BV
namespace Go.Proofs.YtcicpjgnpcnnmaaGreatDoor.LK
open BV
open Go.RowKit
theorem ext_list(s:ByteArray)(i j:Nat):(s.extract i j).data.toList=(s.data.toList.drop i).take (j - i):=Lib.extract_data s i j
theorem ext_end(s:ByteArray)(i:Nat):(s.extract i s.size).data.toList=s.data.toList.drop i:=by
 rw[ext_list,List.take_of_length_le (by rw[List.length_drop,size_list];exact Nat.le_refl _)]
theorem fndI_neg{p:List Int}{l:List UInt8}(h:(fnd p l).isSome=false):fndI p l < 0:=by
 unfold fndI;cases e:fnd p l with
 | none=>simp
 | some i=>rw[e]at h;cases h
theorem fndI_pos{p:List Int}{l:List UInt8}(h:(fnd p l).isSome=true):0≤fndI p l:=by
 unfold fndI;cases e:fnd p l with
 | none=>rw[e]at h;cases h
 | some i=>simp
theorem stands_none(us:List Int)(s:ByteArray)(A:Option Addr)(c:Nat)(w:World)(h:UAt w A us)(hm:us.length≤100000000)(hs:s.size≤100000000)(hf:fm us=none) :
  Calls Tryz.prog 180 #[.string s,.slice A us.length c] w fun e w'=>e = .returned (.bool (M us s.data.toList))∧Below w.heap.size w w':=by
 have HC:=cut_none us A c w h hm hf
 have HM:Hid (M us s.data.toList=(fits us s.data.toList && M [] (s.data.toList.drop us.length))):=by
  have:=M_first (fm_none hf) [] s.data.toList
  rwa [List.append_nil]at this
 obtain⟨t,ht⟩:∃ t,t=s.extract 0 (min us.length s.size):=⟨_,rfl⟩;have htl:t.data.toList=s.data.toList.take (min us.length s.data.toList.length):=by rw[ht,ext_list,size_list];simp
 have hts:t.size≤100000000:=by rw[ht,ByteArray.size_extract];omega
 have HF:=fun w' (hb:Below w.heap.size w w')=>find_any us t A c w' (h.later hb) hm hts
 rw[htl]at HF;have hfi:=fnd_take us s.data.toList;obtain⟨r,hr⟩:∃ r,r=fndI us (s.data.toList.take (min us.length s.data.toList.length)):=⟨_,rfl⟩;rw[←hr]at HF;clear htl hts
 by_cases hn:us.length≤s.size
 ·have hmin:min (us.length:Int) (s.size:Int)=(us.length:Int):=by omega
  rw[show min us.length s.size=us.length by omega]at ht
  subst ht;cases hfit:fits us s.data.toList
  ·rw[hfit]at hfi
   have hr0:r < 0:=by rw[hr];exact fndI_neg hfi
   rw[hfit]at HM;have HC:=Hi HC;have HF:=Hi HF;clear hfi hr hfit hf h;generalize us.length=n at *;go_enter Tryz.func180,Tryz.ntmps180;go_wp2_with fail;refine HC.out.mono ?_;rintro e w1 ⟨rfl,hb1⟩;go_wp2_with fail;refine(HF.out w1 hb1).mono ?_;rintro e w2 ⟨rfl,rfl⟩;go_wp2_with fail
   go_ret
   exact⟨ret_bool (by rw[HM.out];rfl),hb1⟩
  ·rw[hfit]at hfi
   have hr0:0≤r:=by rw[hr];exact fndI_pos hfi
   have hr1:¬r < 0:=by omega
   rw[hfit,Bool.true_and]at HM;have HC:=Hi HC;have HF:=Hi HF;clear hfi hr hfit hf h;generalize us.length=n at *;go_enter Tryz.func180,Tryz.ntmps180;go_wp2_with fail;refine HC.out.mono ?_;rintro e w1 ⟨rfl,hb1⟩;go_wp2_with fail;refine(HF.out w1 hb1).mono ?_;rintro e w2 ⟨rfl,rfl⟩;go_wp2_with fail
   go_ret
   refine⟨ret_bool ?_,hb1⟩;rw[HM.out,Lib.toList_data,ext_end]
   rfl
 ·have hmin:min (us.length:Int) (s.size:Int)=(s.size:Int):=by omega
  have hfit:fits us s.data.toList=false:=by
   cases e:fits us s.data.toList with
   | false=>rfl
   | true=>have:=fits_len e;rw[size_list]at this;omega
  rw[show min us.length s.size=s.size by omega,show s.extract 0 s.size=s by apply ByteArray.ext;simp]at ht
  subst ht;rw[hfit]at hfi;have hr0:r < 0:=by rw[hr];exact fndI_neg hfi
  rw[hfit]at HM;have HC:=Hi HC;have HF:=Hi HF;clear hfi hr hfit hf h;generalize us.length=n at *;go_enter Tryz.func180,Tryz.ntmps180;go_wp2_with fail;refine HC.out.mono ?_;rintro e w1 ⟨rfl,hb1⟩;go_wp2_with fail;refine(HF.out w1 hb1).mono ?_;rintro e w2 ⟨rfl,rfl⟩;go_wp2_with fail
  go_ret
  exact⟨ret_bool (by rw[HM.out];rfl),hb1⟩
theorem fndI_some{p:List Int}{l:List UInt8}:decide (0≤fndI p l)=(fnd p l).isSome:=by
 cases e:(fnd p l).isSome
 ·have:=fndI_neg e
  rw[decide_eq_false_iff_not];omega
 ·have:=fndI_pos e
  rw[decide_eq_true_iff];omega
theorem stands_some(us:List Int)(s:ByteArray)(b off:Nat)(c k:Nat)(w:World)(h:UAt w (some ⟨b,off,none⟩) us)(hm:us.length≤100000000)(hcap:us.length≤c)(hs:s.size≤100000000)(hf:fm us=some k) :
  Calls Tryz.prog 180 #[.string s,.slice (some ⟨b,off,none⟩) us.length c] w fun e w'=>e = .returned (.bool (M us s.data.toList))∧Below w.heap.size w w':=by
 have HC:=cut_some us b off c k w h hm hcap hf;obtain⟨hk,hpc,hsplit⟩:=fm_some hf;have hlen:(us.take k).length=k:=by rw[List.length_take];omega
 have HM:Hid (M us s.data.toList=(fits (us.take k) s.data.toList && M (-2::us.drop (k+1)) (s.data.toList.drop k))):=by
  have:=M_first hpc (-2::us.drop (k+1)) s.data.toList;rw[←hsplit,hlen]at this;exact this
 have HU1:Hid (UAt w (addrAt (some ⟨b,off,none⟩) c (k+1)) (us.drop (k+1))):=h.addr hcap (k+1)
 have HV:Hid (us.length - (k+1)=(us.drop (k+1)).length):=by
  show _=_
  rw[List.length_drop]
 obtain⟨t,ht⟩:∃ t,t=s.extract 0 (min k s.size):=⟨_,rfl⟩;have htl:t.data.toList=s.data.toList.take (min (us.take k).length s.data.toList.length):=by rw[ht,ext_list,size_list,hlen];simp
 have hts:t.size≤100000000:=by rw[ht,ByteArray.size_extract];omega
 have HF:=fun w' (hb:Below w.heap.size w w')=>find_any (us.take k) t _ c w' ((h.take k).later hb) (by omega) hts
 rw[htl,hlen]at HF;have hfi:=fnd_take (us.take k) s.data.toList;rw[hlen]at hfi;obtain⟨r,hr⟩:∃ r,r=fndI (us.take k) (s.data.toList.take (min k s.data.toList.length)):=⟨_,rfl⟩;rw[←hr]at HF;clear htl hts
 by_cases hn:k≤s.size
 ·have hmin:min (k:Int) (s.size:Int)=(k:Int):=by omega
  rw[show min k s.size=k by omega]at ht
  subst ht;cases hfit:fits (us.take k) s.data.toList
  ·rw[hfit]at hfi
   have hr0:r < 0:=by rw[hr];exact fndI_neg hfi
   rw[hfit]at HM;have HC:=Hi HC;have HF:=Hi HF;clear hfi hr hfit hf h hpc hsplit hlen HU1 HV;generalize us.length=n at *;generalize addrAt (some ⟨b,off,none⟩) c (k+1)=A2 at *;go_enter Tryz.func180,Tryz.ntmps180;go_wp2_with fail;refine HC.out.mono ?_;rintro e w1 ⟨rfl,hb1⟩;go_wp2_with fail;refine(HF.out w1 hb1).mono ?_;rintro e w2 ⟨rfl,rfl⟩;go_wp2_with fail
   go_ret
   exact⟨ret_bool (by rw[HM.out];rfl),hb1⟩
  ·rw[hfit]at hfi
   have hr0:0≤r:=by rw[hr];exact fndI_pos hfi
   have hr1:¬r < 0:=by omega
   rw[hfit,Bool.true_and]at HM;have HC:=Hi HC;have HF:=Hi HF
   have HD:Hid ((us.drop (k+1)).length≤100000000∧(us.drop (k+1)).length≤c - (k+1)):=by
    show _∧_
    rw[List.length_drop];omega
   clear hfi hr hfit hf h hpc hsplit hlen;generalize us.length=n at *;generalize addrAt (some ⟨b,off,none⟩) c (k+1)=A2 at *;go_enter Tryz.func180,Tryz.ntmps180;go_wp2_with fail;refine HC.out.mono ?_;rintro e w1 ⟨rfl,hb1⟩;go_wp2_with fail;refine(HF.out w1 hb1).mono ?_;rintro e w2 ⟨rfl,rfl⟩;go_wp2_with fail
   go_loopg [0,1] (n - (k+1)) (fun g s0 s1 wx=>∃ (t:ByteArray) (vs:List Int) (A':Option Addr) (m c':Nat),s0 = .string t∧s1 = .slice A' m c'∧m≤g∧m≤c'∧t.size≤100000000∧m≤100000000∧Hid (m=vs.length)∧Hid (UAt wx A' vs)∧Hid (M us s.data.toList=M (-2::vs) t.data.toList)∧Below w.heap.size w wx)
   case atStart=>exact⟨_,us.drop (k+1),A2,_,_,rfl,rfl,Nat.le_refl _,by omega,by rw[ByteArray.size_extract];omega,by omega,HV.out,HU1.out.later hb1,by show _=_;rw[HM.out,ext_end],hb1⟩
   case round =>
    obtain⟨t,vs,A',m,c',rfl,rfl,hmg,hmc,hts,hm2,HL,HUv,HMv,hbr⟩:=hrel;cases hfv:fm vs with
    | none =>
     have HC2:=Hi (cut_none vs A' c' wr HUv.out (by rw[←HL.out];omega) hfv)
     rw[←HL.out]at HC2;obtain⟨q,hq⟩:∃ q,q=t.size - m:=⟨_,rfl⟩;have hqs:q≤t.size:=by omega
     have hmax:max ((t.size:Int) - (m:Int)) 0=(q:Int):=by omega
     have HR:=M_last (fm_none hfv) t.data.toList;rw[←HL.out,size_list,←hq,←ext_end]at HR;have HF2:=Hi (fun w' (hb:Below wr.heap.size wr w')=>find_any vs (t.extract q t.size) A' c' w' (HUv.out.later hb) (by rw[←HL.out];omega) (by rw[ByteArray.size_extract];omega))
     rw[←HL.out]at HF2;have HR:=Hi HR;clear hfv hq;obtain⟨r2,hr2⟩:∃ r2,r2=fndI vs (t.extract q t.size).data.toList:=⟨_,rfl⟩;rw[←hr2]at HF2;have HR2:=Hi hr2;clear hr2;go_wp2_with fail;refine HC2.out.mono ?_;rintro e w2 ⟨rfl,hb2⟩;go_wp2_with fail;refine(HF2.out w2 hb2).mono ?_;rintro e w3 ⟨rfl,rfl⟩;go_wp2_with fail
     go_ret
     exact⟨ret_bool (by rw[HMv.out,HR.out,HR2.out,fndI_some]),bthen hbr hb2⟩
    | some k2 =>
     have hlv:=(fm_some hfv).1;rw[←HL.out]at hlv;obtain⟨b',off',hA',-,-⟩:=HUv.out (by rw[←HL.out];omega)
     subst hA';have HC2:=Hi (cut_some vs b' off' c' k2 wr HUv.out (by rw[←HL.out];omega) (by rw[←HL.out];exact hmc) hfv)
     rw[←HL.out]at HC2;have hlk:(vs.take k2).length=k2:=by rw[List.length_take,←HL.out];omega
     have HF2:=Hi (fun w' (hb:Below wr.heap.size wr w')=>find_any (vs.take k2) t (some ⟨b',off',none⟩) c' w' ((HUv.out.take k2).later hb) (by rw[hlk];omega) hts)
     rw[hlk]at HF2;have HR:=M_mid (fm_some hfv).2.1 (vs.drop (k2+1)) t.data.toList;rw[←(fm_some hfv).2.2,hlk]at HR;have HUd:=Hi (HUv.out.addr (c:=c') (by rw[←HL.out];exact hmc) (k2+1))
     have HLd:Hid (m - (k2+1)=(vs.drop (k2+1)).length):=by
      show _=_
      rw[List.length_drop,←HL.out]
     have HK2:=Hi hlk;clear hfv hlk;cases hfd:fnd (vs.take k2) t.data.toList with
     | none =>
      rw[hfd]at HR;have HR:=Hi HR;rw[show fndI (vs.take k2) t.data.toList = -1 by unfold fndI;rw[hfd]]at HF2
      clear hfd;go_wp2_with fail;refine HC2.out.mono ?_;rintro e w2 ⟨rfl,hb2⟩;go_wp2_with fail;refine(HF2.out w2 hb2).mono ?_;rintro e w3 ⟨rfl,rfl⟩;go_wp2_with fail
      go_ret
      exact⟨ret_bool (by rw[HMv.out,HR.out]),bthen hbr hb2⟩
     | some i =>
      rw[hfd]at HR;have HR:=Hi HR;rw[show fndI (vs.take k2) t.data.toList=i by unfold fndI;rw[hfd]]at HF2
      have hik:i+k2≤t.size:=by
       obtain⟨i1,i2,-⟩:=fnd_some hfd;have:=fits_len i2;rw[List.length_drop,size_list,HK2.out]at this;rw[size_list]at i1
       omega
      clear hfd;go_wp2_with fail;refine HC2.out.mono ?_;rintro e w2 ⟨rfl,hb2⟩;go_wp2_with fail;refine(HF2.out w2 hb2).mono ?_;rintro e w3 ⟨rfl,rfl⟩;go_wp2_with fail
      go_roundg (m - (k2+1))
      case measure=>omega
      case rel=>exact⟨_,vs.drop (k2+1),_,_,_,rfl,rfl,Nat.le_refl _,by omega,by rw[ByteArray.size_extract];omega,by omega,HLd.out,HUd.out.later hb2,by show _=_;rw[HMv.out,HR.out,ext_end],bthen hbr hb2⟩
 ·have hmin:min (k:Int) (s.size:Int)=(s.size:Int):=by omega
  have hfit:fits (us.take k) s.data.toList=false:=by
   cases e:fits (us.take k) s.data.toList with
   | false=>rfl
   | true=>have:=fits_len e;rw[size_list,hlen]at this;omega
  rw[show min k s.size=s.size by omega,show s.extract 0 s.size=s by apply ByteArray.ext;simp]at ht
  subst ht;rw[hfit]at hfi;have hr0:r < 0:=by rw[hr];exact fndI_neg hfi
  rw[hfit]at HM;have HC:=Hi HC;have HF:=Hi HF;clear hfi hr hfit hf h hpc hsplit hlen HU1 HV;generalize us.length=n at *;generalize addrAt (some ⟨b,off,none⟩) c (k+1)=A2 at *;go_enter Tryz.func180,Tryz.ntmps180;go_wp2_with fail;refine HC.out.mono ?_;rintro e w1 ⟨rfl,hb1⟩;go_wp2_with fail;refine(HF.out w1 hb1).mono ?_;rintro e w2 ⟨rfl,rfl⟩;go_wp2_with fail
  go_ret
  exact⟨ret_bool (by rw[HM.out];rfl),hb1⟩
end Go.Proofs.YtcicpjgnpcnnmaaGreatDoor.LK
namespace Go.Proofs.YtcicpjgnpcnnmaaGreatDoor.BV
end Go.Proofs.YtcicpjgnpcnnmaaGreatDoor.BV
namespace Go.Proofs.YtcicpjgnpcnnmaaGreatDoor.LK
open BV
open Go.RowKit
theorem info45:(Tryz.prog.info? 213).map (fun i=>(i.zero,i.size,i.bytes))=some (some (.int .i16 0),1,2):=by kernel_rfl
def Rd(l:List UInt8)(k:Nat)(us:List Int):Prop:=rd l=(rd (l.drop k)).map (us ++ ·)∧us.length≤k
theorem Rd.start(l:List UInt8):Rd l 0 []:=⟨by rw[List.drop_zero];cases rd l <;> simp,Nat.zero_le _⟩
theorem drop_at{l:List UInt8}{k:Nat}(h:k < l.length):l.drop k=l[k]::l.drop (k+1):=List.drop_eq_getElem_cons h
theorem Rd.many{l:List UInt8}{k:Nat}{us:List Int}(h:Rd l k us)(hk:k < l.length)(hc:l[k]=37):Rd l (k+1) (us ++ [-2]):=by
 refine⟨?_,by have:=h.2;simp;omega⟩
 rw[h.1,drop_at hk,hc,rd_cons,if_pos rfl,omap_app]
theorem Rd.one{l:List UInt8}{k:Nat}{us:List Int}(h:Rd l k us)(hk:k < l.length)(hc:l[k]=95):Rd l (k+1) (us ++ [-1]):=by
 refine⟨?_,by have:=h.2;simp;omega⟩
 rw[h.1,drop_at hk,hc,rd_cons,if_neg (by decide),if_pos rfl,omap_app]
theorem Rd.lit{l:List UInt8}{k:Nat}{us:List Int}(h:Rd l k us)(hk:k < l.length)(h1:l[k]≠37)(h2:l[k]≠95)(h3:l[k]≠92):Rd l (k+1) (us ++ [(l[k].toNat:Int)]):=by
 refine⟨?_,by have:=h.2;simp;omega⟩
 rw[h.1,drop_at hk,rd_cons,if_neg h1,if_neg h2,if_neg h3,omap_app]
theorem Rd.esc{l:List UInt8}{k:Nat}{us:List Int}(h:Rd l k us)(hk:k+1 < l.length)(hc:l[k]=92)(h1:sp l[k+1]=true):Rd l (k+1+1) (us ++ [(l[k+1].toNat:Int)]):=by
 refine⟨?_,by have:=h.2;simp;omega⟩
 rw[h.1,drop_at (show k < l.length by omega),hc,drop_at hk,rd_cons,if_neg (by decide),if_neg (by decide),if_pos rfl]
 simp only;rw[if_pos h1,omap_app]
theorem Rd.bad{l:List UInt8}{k:Nat}{us:List Int}(h:Rd l k us)(hk:k+1 < l.length)(hc:l[k]=92)(h1:sp l[k+1]=false):rd l=none:=by
 rw[h.1,drop_at (show k < l.length by omega),hc,drop_at hk,rd_cons,if_neg (by decide),if_neg (by decide),if_pos rfl]
 simp only;rw[if_neg (by rw[h1];decide)];rfl
theorem Rd.cut{l:List UInt8}{k:Nat}{us:List Int}(h:Rd l k us)(hk:k+1=l.length)(hc:l[k]=92):rd l=none:=by
 rw[h.1,drop_at (show k < l.length by omega),hc,List.drop_of_length_le (by omega),rd_cons,if_neg (by decide),if_neg (by decide),if_pos rfl]
 rfl
theorem Rd.done{l:List UInt8}{k:Nat}{us:List Int}(h:Rd l k us)(hk:k=l.length):rd l=some us:=by
 rw[h.1,hk,List.drop_length];simp[rd]
theorem uat_of{w:World}{B:Nat}{v:Value}{us:List Int}(h:w.ownsRow B 213 1 v us.length (us.map (Value.int .i16))):∃ A c,v = .slice A us.length c∧UAt w A us∧us.length≤c:=by
 rcases h.2 with ⟨hv,h0⟩ | ⟨g,cap,cur,hv,_,hg,hn,_⟩
 ·refine⟨none,0,by rw[hv,h0],UAt.nil (List.eq_nil_of_length_eq_zero h0),by omega⟩
 ·refine⟨some ⟨g,0,none⟩,cap,hv,fun _=>⟨g,0,rfl,(Array.getElem?_eq_some_iff.1 hg).1,fun j hj => ?_⟩,hn⟩
  have:=h.cells (g:=g) (by rw[hv];rfl) j (.int .i16 us[j]) (by simp[hj])
  rwa [WideShapes.add_plain]at this
def ReadPost(l:List UInt8)(w:World)(e:Ending)(w':World):Prop :=
 ((rd l=none∧e = .returned (.tuple #[.slice none 0 0,.int .i64 40]))∨∃ us A c,rd l=some us∧e = .returned (.tuple #[.slice A us.length c,.int .i64 0])∧UAt w' A us∧us.length≤c)∧Below w.heap.size w w'
theorem cell_new(w:World)(v:Value)(T:TypeId):∀ j u,[v][j]? = some u→(w.alloc (.cells #[v] T)).cell? ((⟨w.heap.size,0,none⟩:Addr).add j)=some u:=by
 intro j u hj
 match j,hj with
 | 0,hj=>simp at hj;subst hj;simp[Addr.add]
theorem one_cell(k:IntKind)(n:Int):∀ u∈[Value.int k n],u.oneCell'=true:=by
 intro u hu
 simp at hu;subst hu;rfl
theorem map_snoc(us:List Int)(u:Int):us.map (Value.int .i16) ++ [.int .i16 u]=(us ++ [u]).map (Value.int .i16):=by simp
theorem len_snoc(us:List Int)(u:Int):us.length+1=(us ++ [u]).length:=by simp
theorem own_step{w w1 w2:World}{B:Nat}{v v':Value}{us:List Int}{u:Int}{o:Obj}(hB:Below B w w1)(hBw:B≤w1.heap.size)(hown:w1.ownsRow B 213 1 v us.length (us.map (Value.int .i16)))(hown':w2.ownsRow B 213 1 v' (us.length+1) (us.map (Value.int .i16) ++ [.int .i16 u]))(hgrow:(w1.alloc o).grownBy w2 v.ownBlock) :
  w2.ownsRow B 213 1 v' (us ++ [u]).length ((us ++ [u]).map (Value.int .i16))∧Below B w w2 :=
 ⟨by rw[←map_snoc,←len_snoc];exact hown',(hB.alloc hBw _).grown hgrow (by simp;omega) (fun k hk=>(hown.lt k hk).1)⟩
theorem special_any(x:UInt8)(w:World):Calls Tryz.prog 201 #[.int .u8 x.toNat] w fun e w'=>e = .returned (.bool (sp x))∧w=w':=by
 have HX:Hid (sp x=(((x.toNat:Int) == 37) || (((x.toNat:Int) == 95) || ((x.toNat:Int) == 92)))):=by
  show _=_
  apply bool_iff
  rw[sp_iff];simp only[Bool.or_eq_true,beq_iff_eq]
  constructor
  ·rintro(rfl | rfl | rfl) <;> simp
  ·rintro(h | h | h)
   ·exact Or.inl (UInt8.toNat_inj.1 (by show x.toNat=37;omega))
   ·exact Or.inr (Or.inl (UInt8.toNat_inj.1 (by show x.toNat=95;omega)))
   ·exact Or.inr (Or.inr (UInt8.toNat_inj.1 (by show x.toNat=92;omega)))
 have hx:=UInt8.toNat_lt x;generalize sp x=q at *;generalize x.toNat=n at *;go_enter Tryz.func201,Tryz.ntmps201
 go_wp2
 all_goals go_ret
 all_goals refine⟨ret_bool ?_,rfl⟩
 all_goals (go_light;rw[HX.out];first | exact Bool.or_assoc _ _ _ | simp_all)
end Go.Proofs.YtcicpjgnpcnnmaaGreatDoor.LK
namespace Go.Proofs.YtcicpjgnpcnnmaaGreatDoor.BV
end Go.Proofs.YtcicpjgnpcnnmaaGreatDoor.BV
namespace Go.Proofs.YtcicpjgnpcnnmaaGreatDoor.LK
open BV
open Go.RowKit
theorem bne_byte{x:UInt8}{n:Nat}(hn:n < 256)(h:x≠UInt8.ofNat n):((x.toNat:Int) == (n:Int))=false:=by
 rw[beq_eq_false_iff_ne];intro e
 apply h
 apply UInt8.toNat_inj.1
 rw[UInt8.toNat_ofNat']
 omega
theorem read_any(s:ByteArray)(w:World)(hs:s.size≤100000000) :
  Calls Tryz.prog 179 #[.string s] w (ReadPost s.data.toList w):=by
 obtain⟨i0,hi,hz0,hz1,hz2⟩:=info_parts info45;have HL:Hid (s.data.toList.length=s.size):=size_list s;go_enter Tryz.func179,Tryz.ntmps179
 go_wp2_with (at_make;refine wpList_make_own _ rfl _ _ 199 rfl w.heap.size 213 i0 (.int .i16 0) 1 Tryz.underlying199 hi hz0 hz1 _ _ _ s.size rfl rfl rfl ?b1 ?b2 ?b3 ?_)
 case b1=>rw[hz2];omega
 case b2=>unfold maxLen;omega
 case b3=>exact Nat.le_refl _
 intro w0 hown0 hgrow0;go_wp2_with fail
 go_loopg [4,5] s.size (fun g s4 s5 wx=>∃ (k:Nat) (us:List Int),k+g=s.size∧s5 = .int .i64 k∧us.length≤k∧Hid (Rd s.data.toList k us)∧Hid (wx.ownsRow w.heap.size 213 1 s4 us.length (us.map (Value.int .i16)))∧Below w.heap.size w wx)
 case atStart=>exact⟨0,[],by omega,rfl,Nat.le_refl _,Rd.start _,hown0,(Below.refl _ _).grown hgrow0 (Nat.le_refl _) (by simp)⟩
 case round =>
  obtain⟨k,us,hkg,rfl,hul,HR,HO,hb⟩:=hrel;have hBw:=hb.size;cases gk with
  | zero =>
   have hkz:¬((k:Int) < (s.size:Int)):=by omega
   obtain⟨A,c,rfl,hu,huc⟩:=uat_of HO.out;go_wp2_with fail
   go_ret2
   exact⟨Or.inr ⟨us,A,c,HR.out.done (by rw[HL.out];omega),rfl,hu,huc⟩,hb⟩
  | succ g =>
   have hkz:(k:Int) < (s.size:Int):=by omega
   have hkl:k < s.data.toList.length:=by rw[HL.out];omega
   obtain⟨x,hx⟩:∃ x,x=s[k]'(by omega):=⟨_,rfl⟩
   have HX:Hid (s.data.toList[k]=x):=hx.symm
   by_cases h1:x=37
   ·have e1:(s[k]'(by omega)).toNat=37:=by rw[←hx,h1];rfl
    rw[h1]at HX;clear hx h1
    go_wp2_with (at_builtin;refine wpList_append_own _ rfl _ _ 199 rfl w.heap.size 213 i0 (.int .i16 0) 1 2 Tryz.underlying199 hi hz0 hz1 hz2 rfl (by decide) _ _ _ rfl (HO.out.alloc _) ⟨wr.heap.size,0,none⟩ 1 1 [.int .i16 (-2)] rfl rfl (cell_new _ _ _) (one_cell _ _) (by unfold maxLen;omega) (by omega) (by simp;omega) ?_)
    intro v' w2 hown' hgrow _;obtain⟨ho2,hb2⟩:=own_step hb hBw HO.out hown' hgrow;have HO2:=Hi ho2;clear ho2 hown' hgrow;go_wp2_with fail
    go_roundg g
    case measure=>omega
    case rel=>exact⟨k+1,_,by omega,by go_num,by simp;omega,HR.out.many hkl HX.out,HO2.out,hb2⟩
   ·by_cases h2:x=95
    ·have e1:(s[k]'(by omega)).toNat=95:=by rw[←hx,h2];rfl
     rw[h2]at HX;clear hx h1 h2
     go_wp2_with (at_builtin;refine wpList_append_own _ rfl _ _ 199 rfl w.heap.size 213 i0 (.int .i16 0) 1 2 Tryz.underlying199 hi hz0 hz1 hz2 rfl (by decide) _ _ _ rfl (HO.out.alloc _) ⟨wr.heap.size,0,none⟩ 1 1 [.int .i16 (-1)] rfl rfl (cell_new _ _ _) (one_cell _ _) (by unfold maxLen;omega) (by omega) (by simp;omega) ?_)
     intro v' w2 hown' hgrow _;obtain⟨ho2,hb2⟩:=own_step hb hBw HO.out hown' hgrow;have HO2:=Hi ho2;clear ho2 hown' hgrow;go_wp2_with fail
     go_roundg g
     case measure=>omega
     case rel=>exact⟨k+1,_,by omega,by go_num,by simp;omega,HR.out.one hkl HX.out,HO2.out,hb2⟩
    ·by_cases h3:x=92
     ·have e1:(s[k]'(by omega)).toNat=92:=by rw[←hx,h3];rfl
      rw[h3]at HX;clear hx h1 h2 h3
      by_cases h4:k+1=s.size
      ·have e4:((k:Int)+1 == (s.size:Int))=true:=by rw[beq_iff_eq];omega
       have HB:=Hi (HR.out.cut (by rw[HL.out];exact h4) HX.out)
       clear h4;go_wp2_with fail
       go_ret2
       exact⟨Or.inl ⟨HB.out,rfl⟩,hb⟩
      ·have hk1:k+1 < s.size:=by omega
       have e4:((k:Int)+1 == (s.size:Int))=false:=by rw[beq_eq_false_iff_ne];omega
       have hkl1:k+1 < s.data.toList.length:=by rw[HL.out];omega
       obtain⟨y,hy⟩:∃ y,y=s[k+1]'(by omega):=⟨_,rfl⟩
       have HY:Hid (s.data.toList[k+1]=y):=hy.symm;have HS:=special_any (s[k+1]'(by omega))
       rw[←hy]at HS;clear h4;cases hsp:sp y
       ·rw[hsp]at HS
        have HB:=Hi (HR.out.bad hkl1 HX.out (by rw[HY.out];exact hsp))
        clear hsp;subst hy
        go_wp2_with (go_at_call 201;refine(HS _).mono ?_;rintro e w' ⟨rfl,rfl⟩)
        go_ret2
        exact⟨Or.inl ⟨HB.out,rfl⟩,hb⟩
       ·rw[hsp]at HS
        have HE:=Hi (HR.out.esc hkl1 HX.out (by rw[HY.out];exact hsp))
        have ew:=wrap_byte y;clear hsp;subst hy
        go_wp2_with (first | (go_at_call 201;refine(HS _).mono ?_;rintro e w' ⟨rfl,rfl⟩) | (at_builtin;refine wpList_append_own _ rfl _ _ 199 rfl w.heap.size 213 i0 (.int .i16 0) 1 2 Tryz.underlying199 hi hz0 hz1 hz2 rfl (by decide) _ _ _ rfl (HO.out.alloc _) ⟨wr.heap.size,0,none⟩ 1 1 [.int .i16 ((s[k+1]'(by omega)).toNat)] rfl rfl (cell_new _ _ _) (one_cell _ _) (by unfold maxLen;omega) (by omega) (by simp;omega) ?_))
        intro v' w2 hown' hgrow _;obtain⟨ho2,hb2⟩:=own_step hb hBw HO.out hown' hgrow;have HO2:=Hi ho2;clear ho2 hown' hgrow;go_wp2_with fail
        go_roundg (g - 1)
        case measure=>omega
        case rel=>exact⟨k+1+1,_,by omega,by go_num,by simp;omega,HE.out,HO2.out,hb2⟩
     ·have e1:=bne_byte (n:=37) (by decide) h1
      have e2:=bne_byte (n:=95) (by decide) h2
      have e3:=bne_byte (n:=92) (by decide) h3
      have ew:=wrap_byte x;have HE:=Hi (HR.out.lit hkl (by rw[HX.out];exact h1) (by rw[HX.out];exact h2) (by rw[HX.out];exact h3))
      clear h1 h2 h3;subst hx
      go_wp2_with (at_builtin;refine wpList_append_own _ rfl _ _ 199 rfl w.heap.size 213 i0 (.int .i16 0) 1 2 Tryz.underlying199 hi hz0 hz1 hz2 rfl (by decide) _ _ _ rfl (HO.out.alloc _) ⟨wr.heap.size,0,none⟩ 1 1 [.int .i16 ((s[k]'(by omega)).toNat)] rfl rfl (cell_new _ _ _) (one_cell _ _) (by unfold maxLen;omega) (by omega) (by simp;omega) ?_)
      intro v' w2 hown' hgrow _;obtain⟨ho2,hb2⟩:=own_step hb hBw HO.out hown' hgrow;have HO2:=Hi ho2;clear ho2 hown' hgrow;go_wp2_with fail
      go_roundg g
      case measure=>omega
      case rel=>exact⟨k+1,_,by omega,by go_num,by simp;omega,HE.out,HO2.out,hb2⟩
end Go.Proofs.YtcicpjgnpcnnmaaGreatDoor.LK
