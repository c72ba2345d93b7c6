import Derived.Test.YtcicpjgnpcnnmaaGreatDoorQ71
set_option maxRecDepth 100000
set_option linter.unusedSimpArgs false
set_option linter.unusedVariables false
namespace Go.Proofs.YtcicpjgnpcnnmaaGreatDoor
open Go.ChangeShapes Go.WideShapes Go.ChangeAt Go.RowKit
theorem rfilters_reads(os:Os){H:Type}(enc:TypeId×Value→H):∃ places,DataW.whole enc Tryz.prog ((wWorld os).forCall (fun _ _=>0) ⟨#[],#[.agg #[.int .i64 0,.slice none 0 0],.agg #[.string ⟨#[]⟩,.int .i64 0,.int .i64 0,.string ⟨#[]⟩,.string ⟨#[]⟩,.string ⟨#[]⟩,.slice none 0 0],.agg #[.string ⟨#[]⟩,.int .i64 0,.int .i64 0,.string ⟨#[]⟩,.string ⟨#[]⟩,.string ⟨#[]⟩,.slice none 0 0]],[]⟩).memory Tryz.f3.params.toList Rows.rowsFiltersSpec.vars false #[Value.agg #[.int .i64 0,.slice none 0 0],.agg #[.string ⟨#[]⟩,.int .i64 0,.int .i64 0,.string ⟨#[]⟩,.string ⟨#[]⟩,.string ⟨#[]⟩,.slice none 0 0],.agg #[.string ⟨#[]⟩,.int .i64 0,.int .i64 0,.string ⟨#[]⟩,.string ⟨#[]⟩,.string ⟨#[]⟩,.slice none 0 0]].toList 8=some ([.agg [.lit (.int .i64 0),.nil],.agg [.lit (.string []),.agg [.lit (.int .i64 0),.lit (.int .i64 0),.lit (.string [])],.lit (.string []),.lit (.string []),.nil],.agg [.lit (.string []),.agg [.lit (.int .i64 0),.lit (.int .i64 0),.lit (.string [])],.lit (.string []),.lit (.string []),.nil]],[],places) :=
 ⟨[],by kernel_rfl⟩
theorem rfilters_contract(H:Type)(enc:TypeId×Value→H)(W:World)(base:Nat)(args:Array Value)(ds gs:List (DataW H))(before:List MemPlace)
  (hval:∀ (j:Nat) t v,Tryz.f3.params[j]? = some t→args[j]? = some v→Value.okWide Tryz.prog W .any base t v)
  (hW:DataW.Whole enc Tryz.prog Tryz.f3.params.toList Rows.rowsFiltersSpec.vars false W args.toList ds gs before)
  (hsz:(DataW.weightsEach Tryz.prog (Tryz.f3.params.toList++(OpenSpec.ofChange Rows.rowsFiltersSpec).bare.plain.varTypes Tryz.prog) (ds++gs)).all (· ≤ reachBytes)=true)
  (hL:laidMetH Tryz.prog Rows.rowsFiltersRow.laid W)(hsh:W.ShapedOpen Tryz.prog) :
  Calls Tryz.prog 3 args W fun e W'=>∃ v,e = .returned v∧Rows.rowsFiltersSpec.post enc Tryz.prog Tryz.f3 false true false false W args v W':=by
 have hE:=env_of hL hsh;have hW':=hW;obtain⟨p,q,hA0,hV,rfl,hfz,hnd⟩:=hW;have hA:DataW.TrodAll enc Tryz.prog W 0 (fun _=>true) true Tryz.f3.params.toList args.toList ds p:=hA0
 rw[Tryz.params3]at hA hval hsz;obtain⟨v0,vs0,d0,ds0,p0,q0,hargs,rfl,rfl,h0,r0⟩:=trodAll_cons hA;obtain⟨v1,vs1,d1,ds1,p1,q1,rfl,rfl,rfl,h1,r1⟩:=trodAll_cons r0;obtain⟨v2,vs2,d2,ds2,p2,q2,rfl,rfl,rfl,h2,r2⟩:=trodAll_cons r1;obtain⟨rfl,rfl,rfl⟩:=trodAll_nil r2;obtain rfl:args=#[v0,v1,v2]:=by cases args;simp_all
 obtain⟨rfl,rfl⟩:=trodVars_none hV;have hall:=fun n hn=>of_decide_eq_true (List.all_eq_true.1 hsz n hn)
 have k0:=h0;obtain⟨x0,a0,c0,y0,rfl,s0,t0,u0⟩:=open_table (hval 0 24 v0 rfl rfl) h0 (fun n hn=>hall n (DataW.weights_mem_each (j:=0) rfl rfl n hn))
 have k1:=h1;obtain⟨x1,o1,n1⟩:=open_expr (hval 1 29 v1 rfl rfl) h1;have k2:=h2;obtain⟨x2,o2,n2⟩:=open_expr (hval 2 29 v2 rfl rfl) h2;clear hA0;simp only[List.append_nil]at hW';have hlt:∀ x∈p0++(p1++(p2++([]))),x.block < W.heap.size:=fun x hx=>hW'.lt x (by simpa using hx)
 refine(filters_law y0 x1 x2 x0 a0 c0 v1 v2 (fun _=>True) W hE (bvenv_of hL hsh) s0 t0 (fun r hr=>(u0 r hr).1) (fun r hr=>(u0 r hr).2.1) (fun r hr v hv=>((u0 r hr).2.2 v hv).2.2) o1 o2 n1 n2).mono fun e W' ⟨he,hb⟩ => ?_
 subst he;refine⟨_,rfl,_,_,_,[],p0++(p1++(p2++([]))),[],hW',?_,?_,?_,hb.frame _,fun h=>by cases h⟩
 ·exact trodAll_cons_mk (shut_bool Tryz.underlying4 _) trodAll_mk0
 ·exact trodAll_cons_mk (Below.trod laidOut (by kernel_rfl) (of_decide_eq_true (by kernel_rfl)) k0 hb (fun x hx=>hlt x (by simp[hx]))) (trodAll_cons_mk (Below.trod laidOut (by kernel_rfl) (of_decide_eq_true (by kernel_rfl)) k1 hb (fun x hx=>hlt x (by simp[hx]))) (trodAll_cons_mk (Below.trod laidOut (by kernel_rfl) (of_decide_eq_true (by kernel_rfl)) k2 hb (fun x hx=>hlt x (by simp[hx]))) trodAll_mk0))
 ·rfl
theorem rfilters_lifted(os:Os)(started:os.Started)(H:Type)(enc:TypeId×Value→H)(F:Stop.Interp) :
  ReturnsInHanded {} Tryz.checked os 3 .any ((OpenSpec.ofChange Rows.rowsFiltersSpec).preRow enc Tryz.prog Tryz.f3 Rows.rowsFiltersRow.domain false Rows.rowsFiltersRow.laid) (((OpenSpec.ofChange Rows.rowsFiltersSpec).at F).post enc Tryz.prog Tryz.f3 false true false false):=by
 obtain⟨places,hx⟩:=rfilters_reads os enc
 refine returnsInHanded_of_row (C:=Tryz.checked) (s:=OpenSpec.ofChange Rows.rowsFiltersSpec) own started (by kernel_rfl) Tryz.func3
  (witness_zip (enc:=enc) (C:=Tryz.checked) false (wWorld os) #[.agg #[.int .i64 0,.slice none 0 0],.agg #[.string ⟨#[]⟩,.int .i64 0,.int .i64 0,.string ⟨#[]⟩,.string ⟨#[]⟩,.string ⟨#[]⟩,.slice none 0 0],.agg #[.string ⟨#[]⟩,.int .i64 0,.int .i64 0,.string ⟨#[]⟩,.string ⟨#[]⟩,.string ⟨#[]⟩,.slice none 0 0]] (World.laidAll_os _ _ _) (by kernel_rfl) (by kernel_rfl) (by kernel_rfl)
   (OpenSpec.preRow_of_cond 8 hx (by kernel_rfl) (fun k hk=>by cases hk) (by kernel_rfl) (wWorld_met os _))) ?_
 intro W base args ds gs before hval hW _ _ hsz hL hsh _;exact rfilters_contract H enc W base args ds gs before hval hW hsz hL hsh
theorem rfilters_said:Rows.RowsFiltersSaid :=
 OpenClaim.holds_of_cond 3 Tryz.f3 rfl rfl rfl rfl rfl rfl rfl ⟨rfl,rfl,rfl,rfl,rfl⟩ rfl rfl rfl rfl rfl (by kernel_rfl) Tryz.func3 (by kernel_rfl)
  (of_decide_eq_true (by kernel_rfl)) (by unfold Func.isWrapper;first | (rw[if_pos (by decide +kernel)];kernel_rfl) | (rw[if_neg (by decide +kernel)];exact⟨rfl,rfl⟩))
  (fun os started H enc _ F=>by rw[OpenClaim.pre_eq_preRow];exact rfilters_lifted os started H enc F)
theorem rfilters_plain (f : FuncId) (fn : Func) (hf : Tryz.pinned.checked.prog.funcNamed "boscage/boscagelaw11.RowsFilters" = some f) (hfn : Tryz.pinned.checked.prog.funcs[f]? = some fn) :
  false=Tryz.pinned.checked.prog.looks []∧∀ (j:Nat) t,fn.params[j]? = some t→Tryz.pinned.checked.prog.wantsStandIn t=false:=by
 obtain rfl : f = 3 := Option.some.inj ((show Tryz.prog.funcNamed "boscage/boscagelaw11.RowsFilters" = some 3 by kernel_rfl).symm.trans hf) |>.symm
 obtain rfl:fn=Tryz.f3:=(Option.some.inj (Tryz.func3.symm.trans hfn)).symm;refine⟨by kernel_rfl,fun j t ht => ?_⟩
 rw[Tryz.params3]at ht;have hm:t∈#[24,29,29]:=Array.mem_of_getElem? ht;have hwtable:Tryz.prog.wantsStandIn 24=false:=by kernel_rfl
 have hwexpr:Tryz.prog.wantsStandIn 29=false:=by kernel_rfl
 simp at hm
 rcases hm with rfl | rfl | rfl
 all_goals first | exact hwtable | exact hwexpr
theorem rfilters_card:Rows.RowsFiltersCardSaid :=
 Claim7.holds_tied_plain_at .later [] _ _ _ _ rfilters_said (fun _ h=>by cases h) (by kernel_rfl) (fun _ h=>by cases h) rowsFilters_row_tie rfl ⟨rfl,rfl⟩ (by kernel_rfl) rfl rfilters_plain (by kernel_rfl)
end Go.Proofs.YtcicpjgnpcnnmaaGreatDoor
