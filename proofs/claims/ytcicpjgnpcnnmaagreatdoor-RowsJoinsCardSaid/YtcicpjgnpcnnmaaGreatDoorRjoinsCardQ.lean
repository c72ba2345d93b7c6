import Derived.Test.YtcicpjgnpcnnmaaGreatDoorQ71
set_option maxRecDepth 100000
set_option linter.unusedSimpArgs false
set_option linter.unusedVariables false
namespace Go.Proofs.YtcicpjgnpcnnmaaGreatDoor
open Go.ChangeShapes Go.WideShapes Go.ChangeAt Go.RowKit
theorem rjoins_reads(os:Os){H:Type}(enc:TypeId×Value→H):∃ places,DataW.whole enc Tryz.prog ((wWorld os).forCall (fun _ _=>0) ⟨#[],#[.string ⟨#[]⟩,.agg #[.int .i64 0,.slice none 0 0],.agg #[.int .i64 0,.slice none 0 0],.agg #[.string ⟨#[]⟩,.int .i64 0,.int .i64 0,.string ⟨#[]⟩,.string ⟨#[]⟩,.string ⟨#[]⟩,.slice none 0 0]],[]⟩).memory Tryz.f4.params.toList Rows.rowsJoinsSpec.vars false #[Value.string ⟨#[]⟩,.agg #[.int .i64 0,.slice none 0 0],.agg #[.int .i64 0,.slice none 0 0],.agg #[.string ⟨#[]⟩,.int .i64 0,.int .i64 0,.string ⟨#[]⟩,.string ⟨#[]⟩,.string ⟨#[]⟩,.slice none 0 0]].toList 8=some ([.lit (.string []),.agg [.lit (.int .i64 0),.nil],.agg [.lit (.int .i64 0),.nil],.agg [.lit (.string []),.agg [.lit (.int .i64 0),.lit (.int .i64 0),.lit (.string [])],.lit (.string []),.lit (.string []),.nil]],[],places) :=
 ⟨[],by kernel_rfl⟩
theorem rjoins_contract(H:Type)(enc:TypeId×Value→H)(W:World)(base:Nat)(args:Array Value)(ds gs:List (DataW H))(before:List MemPlace)
  (hval:∀ (j:Nat) t v,Tryz.f4.params[j]? = some t→args[j]? = some v→Value.okWide Tryz.prog W .any base t v)
  (hW:DataW.Whole enc Tryz.prog Tryz.f4.params.toList Rows.rowsJoinsSpec.vars false W args.toList ds gs before)
  (hsz:(DataW.weightsEach Tryz.prog (Tryz.f4.params.toList++(OpenSpec.ofChange Rows.rowsJoinsSpec).bare.plain.varTypes Tryz.prog) (ds++gs)).all (· ≤ reachBytes)=true)
  (hL:laidMetH Tryz.prog Rows.rowsJoinsRow.laid W)(hsh:W.ShapedOpen Tryz.prog) :
  Calls Tryz.prog 4 args W fun e W'=>∃ v,e = .returned v∧Rows.rowsJoinsSpec.post enc Tryz.prog Tryz.f4 false true false false W args v W':=by
 have hE:=env_of hL hsh;have hW':=hW;obtain⟨p,q,hA0,hV,rfl,hfz,hnd⟩:=hW;have hA:DataW.TrodAll enc Tryz.prog W 0 (fun _=>true) true Tryz.f4.params.toList args.toList ds p:=hA0
 rw[Tryz.params4]at hA hval hsz;obtain⟨v0,vs0,d0,ds0,p0,q0,hargs,rfl,rfl,h0,r0⟩:=trodAll_cons hA;obtain⟨v1,vs1,d1,ds1,p1,q1,rfl,rfl,rfl,h1,r1⟩:=trodAll_cons r0;obtain⟨v2,vs2,d2,ds2,p2,q2,rfl,rfl,rfl,h2,r2⟩:=trodAll_cons r1;obtain⟨v3,vs3,d3,ds3,p3,q3,rfl,rfl,rfl,h3,r3⟩:=trodAll_cons r2;obtain⟨rfl,rfl,rfl⟩:=trodAll_nil r3;obtain rfl:args=#[v0,v1,v2,v3]:=by cases args;simp_all
 obtain⟨rfl,rfl⟩:=trodVars_none hV;have hall:=fun n hn=>of_decide_eq_true (List.all_eq_true.1 hsz n hn)
 have k0:=h0;obtain⟨x0,rfl,e0,rfl,w0⟩:=Go.ChangeMaps.open_string Tryz.underlying9 (hval 0 9 v0 rfl rfl) h0;have k1:=h1;obtain⟨x1,a1,c1,y1,rfl,s1,t1,u1⟩:=open_table (hval 1 24 v1 rfl rfl) h1 (fun n hn=>hall n (DataW.weights_mem_each (j:=1) rfl rfl n hn))
 have k2:=h2;obtain⟨x2,a2,c2,y2,rfl,s2,t2,u2⟩:=open_table (hval 2 24 v2 rfl rfl) h2 (fun n hn=>hall n (DataW.weights_mem_each (j:=2) rfl rfl n hn))
 have k3:=h3;obtain⟨x3,o3,n3⟩:=open_expr (hval 3 29 v3 rfl rfl) h3;clear hA0;simp only[List.append_nil]at hW';have hlt:∀ x∈[]++(p1++(p2++(p3++([])))),x.block < W.heap.size:=fun x hx=>hW'.lt x (by simpa using hx)
 refine((joins_bytes x0 y1 y2 x3 x1 x2 a1 a2 c1 c2 v3 (fun _=>True) W hE (bvenv_of hL hsh) s1 s2 t1 t2 (fun r hr=>(u1 r hr).1) (fun r hr=>(u2 r hr).1) (fun r hr=>(u1 r hr).2.1) (fun r hr=>(u2 r hr).2.1) (fun r hr v hv=>((u1 r hr).2.2 v hv).2.2) (fun r hr v hv=>((u2 r hr).2.2 v hv).2.2) o3 n3)).mono fun e W' ⟨he,hb⟩ => ?_
 subst he;refine⟨_,rfl,_,_,_,[],[]++(p1++(p2++(p3++([])))),[],hW',?_,?_,?_,hb.frame _,fun h=>by cases h⟩
 ·exact trodAll_cons_mk (shut_bool Tryz.underlying4 _) trodAll_mk0
 ·exact trodAll_cons_mk (Below.trod laidOut (by kernel_rfl) (of_decide_eq_true (by kernel_rfl)) k0 hb (fun x hx=>by cases hx)) (trodAll_cons_mk (Below.trod laidOut (by kernel_rfl) (of_decide_eq_true (by kernel_rfl)) k1 hb (fun x hx=>hlt x (by simp[hx]))) (trodAll_cons_mk (Below.trod laidOut (by kernel_rfl) (of_decide_eq_true (by kernel_rfl)) k2 hb (fun x hx=>hlt x (by simp[hx]))) (trodAll_cons_mk (Below.trod laidOut (by kernel_rfl) (of_decide_eq_true (by kernel_rfl)) k3 hb (fun x hx=>hlt x (by simp[hx]))) trodAll_mk0)))
 ·rfl
theorem rjoins_lifted(os:Os)(started:os.Started)(H:Type)(enc:TypeId×Value→H)(F:Stop.Interp) :
  ReturnsInHanded {} Tryz.checked os 4 .any ((OpenSpec.ofChange Rows.rowsJoinsSpec).preRow enc Tryz.prog Tryz.f4 Rows.rowsJoinsRow.domain false Rows.rowsJoinsRow.laid) (((OpenSpec.ofChange Rows.rowsJoinsSpec).at F).post enc Tryz.prog Tryz.f4 false true false false):=by
 obtain⟨places,hx⟩:=rjoins_reads os enc
 refine returnsInHanded_of_row (C:=Tryz.checked) (s:=OpenSpec.ofChange Rows.rowsJoinsSpec) own started (by kernel_rfl) Tryz.func4
  (witness_zip (enc:=enc) (C:=Tryz.checked) false (wWorld os) #[.string ⟨#[]⟩,.agg #[.int .i64 0,.slice none 0 0],.agg #[.int .i64 0,.slice none 0 0],.agg #[.string ⟨#[]⟩,.int .i64 0,.int .i64 0,.string ⟨#[]⟩,.string ⟨#[]⟩,.string ⟨#[]⟩,.slice none 0 0]] (World.laidAll_os _ _ _) (by kernel_rfl) (by kernel_rfl) (by kernel_rfl)
   (OpenSpec.preRow_of_cond 8 hx (by kernel_rfl) (fun k hk=>by cases hk) (by kernel_rfl) (wWorld_met os _))) ?_
 intro W base args ds gs before hval hW _ _ hsz hL hsh _;exact rjoins_contract H enc W base args ds gs before hval hW hsz hL hsh
theorem rjoins_said:Rows.RowsJoinsSaid :=
 OpenClaim.holds_of_cond 4 Tryz.f4 rfl rfl rfl rfl rfl rfl rfl ⟨rfl,rfl,rfl,rfl,rfl⟩ rfl rfl rfl rfl rfl (by kernel_rfl) Tryz.func4 (by kernel_rfl)
  (of_decide_eq_true (by kernel_rfl)) (by unfold Func.isWrapper;first | (rw[if_pos (by decide +kernel)];kernel_rfl) | (rw[if_neg (by decide +kernel)];exact⟨rfl,rfl⟩))
  (fun os started H enc _ F=>by rw[OpenClaim.pre_eq_preRow];exact rjoins_lifted os started H enc F)
theorem rjoins_plain (f : FuncId) (fn : Func) (hf : Tryz.pinned.checked.prog.funcNamed "boscage/boscagelaw11.RowsJoins" = some f) (hfn : Tryz.pinned.checked.prog.funcs[f]? = some fn) :
  false=Tryz.pinned.checked.prog.looks []∧∀ (j:Nat) t,fn.params[j]? = some t→Tryz.pinned.checked.prog.wantsStandIn t=false:=by
 obtain rfl : f = 4 := Option.some.inj ((show Tryz.prog.funcNamed "boscage/boscagelaw11.RowsJoins" = some 4 by kernel_rfl).symm.trans hf) |>.symm
 obtain rfl:fn=Tryz.f4:=(Option.some.inj (Tryz.func4.symm.trans hfn)).symm;refine⟨by kernel_rfl,fun j t ht => ?_⟩
 rw[Tryz.params4]at ht;have hm:t∈#[9,24,24,29]:=Array.mem_of_getElem? ht;have hwstr:Tryz.prog.wantsStandIn 9=false:=by kernel_rfl
 have hwtable:Tryz.prog.wantsStandIn 24=false:=by kernel_rfl
 have hwexpr:Tryz.prog.wantsStandIn 29=false:=by kernel_rfl
 simp at hm
 rcases hm with rfl | rfl | rfl | rfl
 all_goals first | exact hwstr | exact hwtable | exact hwexpr
theorem rjoins_card:Rows.RowsJoinsCardSaid :=
 Claim7.holds_tied_plain_at .later [] _ _ _ _ rjoins_said (fun _ h=>by cases h) (by kernel_rfl) (fun _ h=>by cases h) rowsJoins_row_tie rfl ⟨rfl,rfl⟩ (by kernel_rfl) rfl rjoins_plain (by kernel_rfl)
end Go.Proofs.YtcicpjgnpcnnmaaGreatDoor
