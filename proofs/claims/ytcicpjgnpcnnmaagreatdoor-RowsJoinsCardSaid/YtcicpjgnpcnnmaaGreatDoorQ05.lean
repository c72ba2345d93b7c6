import Derived.Test.YtcicpjgnpcnnmaaGreatDoorCards
import Derived.Test.YtcicpjgnpcnnmaaGreatDoorTie
import Derived.Test.YtcicpjgnpcnnmaaGreatDoorQ03
import Derived.Test.YtcicpjgnpcnnmaaGreatDoorQ04
import Derived.ProofKit
import Derived.OpenShut
import Derived.Deep.DeepHandedRow
import Derived.Lib.LaidU8
import Derived.Stop.LaidErr
import Derived.Lay
import Derived.SevenTiedAt
import Derived.ChangeMaps5
import Derived.Test.YtcicpjgnpcnnmaaGreatDoorQ09
import Derived.Deep.DeepCutAuto
import Derived.Shelf.Spec.SlicesInsert
import Derived.Lib.AppendZerosOnto
import Derived.Defers
import Derived.Recover
set_option linter.unusedSimpArgs false
set_option linter.unusedVariables false
namespace Go.Proofs.YtcicpjgnpcnnmaaGreatDoor
open Go.ChangeShapes Go.WideShapes Go.ChangeAt Go.RowKit
theorem own:ownKnob Tryz.prog.godebug=none:=by kernel_rfl
theorem laidOut:laidOutB Tryz.prog=true:=by kernel_rfl
def laidL : List (String × DataW Unit) := [("math/bits.deBruijn32tab", Rows.laid_math_bits_deBruijn32tab), ("math/bits.deBruijn64tab", Rows.laid_math_bits_deBruijn64tab), ("internal/strconv.uint64pow10", Rows.laid_internal_strconv_uint64pow10), ("unicode/utf8.acceptRanges", Rows.laid_unicode_utf8_acceptRanges), ("unicode/utf8.first", Rows.laid_unicode_utf8_first)]
theorem env_of{W:World}(_hL:laidMetH Tryz.prog laidL W)(hsh:W.ShapedOpen Tryz.prog):SC.Env W:=by
 have hmax:∃ m,W.cell? ⟨0,0,none⟩=some (.int .i64 m):=Go.Proofs.cell_of_shapedOpen_int (zero:=#[.int .i64 0]) (t:=3) hsh (of_decide_eq_true (by kernel_rfl)) (by kernel_rfl) rfl (by kernel_rfl) (by kernel_rfl) Tryz.underlying3
 obtain⟨m,hm⟩:=hmax;have:=BV.cell_in hm;exact⟨by omega,m,hm⟩
theorem gPow : Tryz.prog.globalNamed "internal/strconv.uint64pow10" = some 1 := by kernel_rfl
theorem pow_eq:(Rows.laid_internal_strconv_uint64pow10:DataW Unit)=Lib.tabData .u64 Lib.pow10Tab:=by kernel_rfl
theorem gAcc : Tryz.prog.globalNamed "math/bits.deBruijn64tab" = some 5 := by kernel_rfl
theorem tab_of_reads{P:Program}{W:World}{name:String}{k:IntKind}{zs:List Int}{g:Nat}{t e:TypeId}{n:Nat}
  (hg:P.globalNamed name=some g)(hty:(P.globals[g]?).map (·.type)=some t)(ht:P.underlying t=some (.array n e))(he:P.underlying e=some (.int k))(hce:P.cellsOf e=1)(hct:P.cellsOf t=n)
  (h:Lib.VarReads P W name (Lib.tabData k zs)):Lib.TabIs P W name k zs:=by
 obtain⟨g',t',cs,fuel,p,hg',ht',hvar,hd⟩:=h;obtain rfl:=Option.some.inj (hg.symm.trans hg');obtain rfl:=Option.some.inj (hty.symm.trans ht');unfold Lib.TabIs;rw[hvar,←Lib.cells_of_tab ht he hce hct hd]
theorem tPow:(Tryz.prog.globals[1]?).map (·.type)=some 249:=by kernel_rfl
theorem bvenv_of{W:World}(hL:laidMetH Tryz.prog laidL W)(hsh:W.ShapedOpen Tryz.prog):BV.Env W:=by
 rw[MakeChecks.laidMetH_plain _ _ _ (by kernel_rfl)]at hL
 have htab : Lib.TabIs Tryz.prog W "internal/strconv.uint64pow10" .u64 Lib.pow10Tab :=
  tab_of_reads gPow tPow Tryz.underlying249 Tryz.underlying238 (by kernel_rfl) (by kernel_rfl) (pow_eq ▸ Lib.laidMet.reads hL (n := "internal/strconv.uint64pow10") (d := Rows.laid_internal_strconv_uint64pow10) (by simp [laidL]))
 have hmax:∃ m,W.cell? ⟨0,0,none⟩=some (.int .i64 m):=Go.Proofs.cell_of_shapedOpen_int (zero:=#[.int .i64 0]) (t:=3) hsh (of_decide_eq_true (by kernel_rfl)) (by kernel_rfl) rfl (by kernel_rfl) (by kernel_rfl) Tryz.underlying3
 have hsz:5 < W.heap.size:=by
  obtain ⟨g, t, cs, fuel, p, h1, h2, h3, h4⟩ := Lib.laidMet.reads hL (n := "math/bits.deBruijn64tab") (d := Rows.laid_math_bits_deBruijn64tab) (by simp [laidL])
  simp only[World.var?,gAcc,Option.bind_some]at h3
  split at h3
  ·rename_i hc
   exact(Array.getElem?_eq_some_iff.1 hc).1
  ·cases h3
 exact⟨by omega,hmax,htab⟩
noncomputable def wWorld (os:Os):World:=World.laidAll Tryz.prog os laidL
theorem wWorld_met(os:Os)(args:Array Value):laidMetH Tryz.prog laidL ((wWorld os).forCall (fun _ _=>0) ⟨#[],args,[]⟩).memory:=by
 rw[MakeChecks.laidMetH_plain _ _ _ (by kernel_rfl)]
 exact laidMet_laidAll args (by kernel_rfl) (by kernel_rfl)
theorem witness_zip{H:Type}{enc:TypeId×Value→H}{C:Checked}{os:Os}{f:FuncId}{fn:Func}{s:OpenSpec}{conds:List PathCond}{apart:Bool}{laid:List (String×DataW Unit)}(modest:Bool)(w0:World)(args:Array Value)(hos:w0.os=os)
  (hv:(w0.forCall (fun _ _=>0) ⟨#[],args,[]⟩).variablesZipB C.prog=true)
  (hr:((w0.forCall (fun _ _=>0) ⟨#[],args,[]⟩).heap.toList.drop C.prog.globals.size).take ((begin C.prog (fun _ _=>0) default).world.heap.size - C.prog.globals.size) =
   (begin C.prog (fun _ _=>0) default).world.heap.toList.drop C.prog.globals.size)
  (hok:Input.okWideB C.prog (w0.forCall (fun _ _=>0) ⟨#[],args,[]⟩) f ⟨#[],args,[]⟩=true)
  (hrow:s.preRow enc C.prog fn conds apart laid (w0.forCall (fun _ _=>0) ⟨#[],args,[]⟩).memory args) :
  ∃ (w:World) (tape:Tape) (i:Input),w.os=os∧(w.forCall tape i).Shaped C.prog∧i.vars = []∧Input.okWide C.prog (w.forCall tape i) .any w.heap.size f i ∧
   s.preRow enc C.prog fn conds apart laid (w.forCall tape i).memory i.args∧({ modest:=modest }:Assume).holds C.prog (lone (Frame.enter C.prog f i.args .normal) [] (w.forCall tape i)) :=
 ⟨w0,fun _ _=>0,⟨#[],args,[]⟩,hos,World.shaped_of_ZipB hv hr,(Input.okWide_of_okWideB (base:=0) hok).1,(Input.okWide_of_okWideB hok).2,hrow,by
  simp only[Assume.holds];exact⟨by simp,by simp,fun _=>Modest.zero,by simp,by simp⟩⟩
end Go.Proofs.YtcicpjgnpcnnmaaGreatDoor
namespace Go.Proofs.YtcicpjgnpcnnmaaGreatDoor
open Go.RowKit
structure But(b:Nat)(w w':World):Prop where
 os:w'.os=w.os
 tape:w'.tape=w.tape
 output:w'.output=w.output
 size:w.heap.size≤w'.heap.size
 block:∀ k,k < w.heap.size→k≠b→w'.heap[k]? = w.heap[k]?
theorem But.of{b B:Nat}{w w':World}(h:Below B w w')(hB:w.heap.size≤B):But b w w':=⟨h.os,h.tape,h.output,h.size,fun k hk _=>h.block k (by omega)⟩
def MAt(w:World)(g:Nat)(ms:List ByteArray):Prop:=g < w.heap.size∧∀ j (h:j < ms.length),w.cell? ⟨g,j,none⟩=some (.string ms[j])
def LGot(w:World)(S:Nat→Prop)(l:List E)(d:Bool)(v:Value):Prop:=∃ (l':List E)(A:Option Addr)(c:Nat),v = .slice A l'.length c∧Sub S w (op1 [] l') A c∧(d=false→l'=l)
abbrev Rw:=E×Option Addr×Nat
def rowCells(r:Rw):List Value:=[.string (str r.1.op),.int .i64 r.1.v.k,.int .i64 r.1.v.i,.string (str r.1.v.s),.string (str r.1.tb),.string (str r.1.nm),.slice r.2.1 r.1.l.length r.2.2]
def flatE(rs:List Rw):List Value:=rs.flatMap rowCells
theorem flatE_len(rs:List Rw):(flatE rs).length=rs.length*7:=by
 induction rs with
 | nil=>rfl
 | cons a l ih=>show(rowCells a++flatE l).length=_;rw[List.length_append,ih];simp[rowCells];omega
theorem flatE_one(rs:List Rw):∀ u∈flatE rs,u.oneCell'=true:=by
 intro u hu;obtain⟨v,_,hv⟩:=List.mem_flatMap.1 hu
 simp[rowCells]at hv
 rcases hv with rfl | rfl | rfl | rfl | rfl | rfl | rfl <;> rfl
theorem flatE_append(xs ys:List Rw):flatE (xs++ys)=flatE xs++flatE ys:=by unfold flatE;rw[List.flatMap_append]
theorem flatE_get(rs:List Rw)(j t:Nat)(hj:j < rs.length)(ht:t < 7):(flatE rs)[j*7+t]? = (rowCells rs[j])[t]? := by
 induction rs generalizing j with
 | nil=>simp at hj
 | cons a l ih =>
  show(rowCells a++flatE l)[j*7+t]? = _
  cases j with
  | zero=>rw[List.getElem?_append_left (by simp[rowCells];omega)];simp
  | succ j =>
   rw[List.getElem?_append_right (by simp[rowCells];omega)]
   rw[show(j+1)*7+t - (rowCells a).length=j*7+t by simp[rowCells];omega,ih j (by simpa using hj)]
   simp
theorem info27:(Tryz.prog.info? 29).map (fun i=>(i.zero,i.size,i.bytes))=some (some (.agg #[.string ⟨#[]⟩,.int .i64 0,.int .i64 0,.string ⟨#[]⟩,.string ⟨#[]⟩,.string ⟨#[]⟩,.slice none 0 0]),7,104):=by kernel_rfl
theorem lcells_of{S:Nat→Prop}{w:World}{g:Nat}{rs:List Rw}(h:∀ j u,(flatE rs)[j]? = some u→w.cell? ((⟨g,0,none⟩:Addr).add j)=some u)(hs:∀ r∈rs,Sub S w r.1 r.2.1 r.2.2):LCells S w (rs.map (·.1)) g 0:=by
 refine LCells.of fun j hj => ?_
 rw[List.length_map]at hj;have e:=fun t (ht:t < 7) (u:Value) (hu:(rowCells rs[j])[t]? = some u)=>h (j*7+t) u ((flatE_get rs j t hj ht).trans hu)
 refine⟨rs[j].2.1,rs[j].2.2,?_,by rw[List.getElem_map];exact hs _ (List.getElem_mem hj)⟩
 rw[List.getElem_map];have e0:=e 0 (by omega) _ rfl
 have e1:=e 1 (by omega) _ rfl
 have e2:=e 2 (by omega) _ rfl
 have e3:=e 3 (by omega) _ rfl
 have e4:=e 4 (by omega) _ rfl
 have e5:=e 5 (by omega) _ rfl
 have e6:=e 6 (by omega) _ rfl
 rw[WideShapes.add_plain]at e0 e1 e2 e3 e4 e5 e6;exact⟨e0,e1,e2,e3,e4,e5,e6⟩
def OwnL(w:World)(B:Nat)(S:Nat→Prop)(l:List E)(d:Bool)(v:Value):Prop:=∃ rs:List Rw,w.ownsRow B 29 7 v rs.length (flatE rs)∧(∀ r∈rs,Sub (fun k=>S k∧v.ownBlock≠some k) w r.1 r.2.1 r.2.2)∧rs.length=l.length∧(d=false→rs.map (·.1)=l)
theorem OwnL.got{w:World}{B:Nat}{S:Nat→Prop}{l:List E}{d:Bool}{v:Value}(h:OwnL w B S l d v)(hS:∀ k,B≤k→S k):LGot w S l d v:=by
 obtain⟨rs,h1,h2,h3,h4⟩:=h;have hsub:∀ r∈rs,Sub S w r.1 r.2.1 r.2.2:=fun r hr=>(h2 r hr).keep (fun k hk _=>⟨hk.1,rfl⟩) (Nat.le_refl _)
 rcases h1.2 with ⟨hv,h0⟩ | ⟨g,cap,cur,hv,hg,hgg,hn,hm,hcs,_⟩
 ·have:rs = []:=List.eq_nil_of_length_eq_zero h0
  subst this;exact⟨[],none,0,hv,by simp[Sub,op1],fun hd=>by rw[←h4 hd];rfl⟩
 ·have hc:=h1.cells (g:=g) (by rw[hv];rfl)
  refine⟨rs.map (·.1),some ⟨g,0,none⟩,cap,by rw[hv,List.length_map],?_,h4⟩
  refine⟨by rw[List.length_map];exact hn,hm,fun _=>⟨g,0,rfl,hS g hg,(Array.getElem?_eq_some_iff.1 hgg).1,lcells_of hc hsub⟩⟩
theorem OwnL.keep{w w':World}{B:Nat}{S S':Nat→Prop}{l:List E}{d:Bool}{v:Value}(h:OwnL w B S l d v)(hS:∀ k,S k→k < w.heap.size→S' k∧w'.heap[k]? = w.heap[k]?)(hb:But 0 w w'∨∃ b,b < B∧But b w w')(hB:0 < B):OwnL w' B S' l d v:=by
 obtain⟨rs,h1,h2,h3,h4⟩:=h;obtain⟨b,hbB,hbut⟩:∃ b,b < B∧But b w w':=by rcases hb with h | h;exact⟨0,hB,h⟩;exact h
 refine⟨rs,?_,fun r hr=>(h2 r hr).keep (fun k hk hlt=>⟨⟨(hS k hk.1 hlt).1,hk.2⟩,(hS k hk.1 hlt).2⟩) hbut.size,h3,h4⟩
 refine h1.kept (row:=some b) ⟨hbut.os,hbut.tape,hbut.output,hbut.size,fun k hk hkb=>hbut.block k hk (fun e=>hkb (by rw[e]))⟩ ?_
 cases hv:v.ownBlock with
 | none=>exact .inl rfl
 | some g =>
  right
  intro e;have:=(h1.lt g hv).1;cases e
  omega
theorem ownL_app{w0 w:World}{B:Nat}{S:Nat→Prop}{l:List E}{d:Bool}{v:Value}(h:OwnL w B S l d v)(r:Rw){e:E}(hs:Sub (fun k=>S k∧v.ownBlock≠some k) w r.1 r.2.1 r.2.2)(hr:d=false→r.1=e)(hm:l.length≤1000000)(hB:B≤w.heap.size)(b:Nat)(hb:But b w0 w)(hB0:w0.heap.size≤B)(H:Nat)(hH:w.heap.size=H) :
  ∃ v' w',(Builtin.append_ #[27,27] 27 #[v,.slice (some ⟨H,0,none⟩) 1 1]).run Tryz.prog (w.alloc (.cells (rowCells r).toArray 29)) = .ok v' w'∧OwnL w' B S (l ++ [e]) d v'∧But b w0 w'∧(∀ k,k < w.heap.size→v.ownBlock≠some k→w'.heap[k]? = w.heap[k]?)∧w.heap.size≤w'.heap.size:=by
 subst hH;obtain⟨i0,hi,hz0,hz1,hz2⟩:=info_parts info27;obtain⟨rs,h1,h2,h3,h4⟩:=h;have h1a:=h1.alloc (.cells (rowCells r).toArray 29)
 have hcell:∀ j u,(flatE [r])[j]? = some u→(w.alloc (.cells (rowCells r).toArray 29)).cell? ((⟨w.heap.size,0,none⟩:Addr).add j)=some u:=by
  intro j u hu;rw[WideShapes.add_plain,Lib.cell_of_heap (heap_alloc_new w _)]
  simpa [flatE]using hu
 obtain⟨v',w',g1,g2,g3,-,g5⟩:=run_append_own_at (P:=Tryz.prog) (w.alloc (.cells (rowCells r).toArray 29)) B 27 27 29 i0 _ 7 104 Tryz.underlying27 hi hz0 hz1 hz2 rfl (by decide) v rs.length (flatE rs) h1a ⟨w.heap.size,0,none⟩ 1 1 (flatE [r]) (by rw[flatE_len];simp) hcell (flatE_one [r]) (by unfold maxLen;omega) (by omega) (by simp;omega)
 have hsz:(w.alloc (.cells (rowCells r).toArray 29)).heap.size=w.heap.size+1:=by simp
 have hblk:∀ k,k < w.heap.size→v.ownBlock≠some k→w'.heap[k]? = w.heap[k]? := fun k hk hv=>by
  rw[g3.block k (by omega) (fun e=>hv e.symm)]
  exact Below.heap_alloc _ _ _ hk
 have hgs:=g3.size
 have hnew:∀ k,k < w.heap.size→v.ownBlock≠some k→v'.ownBlock≠some k:=fun k hk hv=>by
  rcases g5 with g5 | g5
  ·rw[g5];exact hv
  ·rw[g5,hsz];intro e;injection e;omega
 refine⟨v',w',g1,⟨rs ++ [r],?_,?_,by simp[h3],fun hd=>by rw[List.map_append,h4 hd];simp[hr hd]⟩,?_,hblk,by omega⟩
 ·rw[List.length_append,flatE_append]
  exact g2
 ·intro q hq
  rcases List.mem_append.1 hq with hq | hq
  ·exact(h2 q hq).keep (fun k hk hlt=>⟨⟨hk.1,hnew k hlt hk.2⟩,hblk k hlt hk.2⟩) (by omega)
  ·rw[List.mem_singleton]at hq
   subst hq;exact hs.keep (fun k hk hlt=>⟨⟨hk.1,hnew k hlt hk.2⟩,hblk k hlt hk.2⟩) (by omega)
 ·refine⟨by rw[g3.os];exact hb.os,by rw[g3.tape];exact hb.tape,by rw[g3.output];exact hb.output,by have:=hb.size;omega,fun k hk hkb => ?_⟩
  rw[hblk k (by have:=hb.size;omega) (fun hv=>by have:=(h1.lt k hv).1;omega)]
  exact hb.block k hk hkb
end Go.Proofs.YtcicpjgnpcnnmaaGreatDoor
namespace Go.Proofs.YtcicpjgnpcnnmaaGreatDoor

open Go.RowKit
def LTx(w:World):Type := { W:World // Below w.heap.size w W }
theorem wp_region_classx{P:Program}{id:Nat}{Q:Exit→Act→World→Prop}{a:Act}{w:World}{l:List Oper}(C:World→Prop)(hm:P.follows .mixedOrders=true)(hB:Region.lexB .any l.toArray=true)(hC:C w.drew)(h:wpQuiet P l.toArray C (fun a'=>∀ w',C w'→Q .normal a' w') l a):(Code.region id l.toArray true).wp P Q a w :=
 wp_region_quiet (C:=C) hm hB hC (by simpa using h)
end Go.Proofs.YtcicpjgnpcnnmaaGreatDoor
