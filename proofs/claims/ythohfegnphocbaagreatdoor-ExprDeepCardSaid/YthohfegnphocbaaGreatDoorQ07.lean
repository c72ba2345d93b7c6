/- What the rows of this seat give a walk: the signs, and the library's two errors, are there. A world for the witness, in which every listed variable is laid. No condition. -/
import Derived.Test.YthohfegnphocbaaGreatDoorCards
import Derived.Test.YthohfegnphocbaaGreatDoorTie
import Derived.Test.YthohfegnphocbaaGreatDoorQ02
import Derived.Test.YthohfegnphocbaaGreatDoorQ05
import Derived.Test.YthohfegnphocbaaGreatDoorQ06
import Derived.ProofKit
import Derived.OpenShut
import Derived.Deep.DeepHandedRow
import Derived.Lib.LaidTab
import Derived.Lib.LaidU8
import Derived.Stop.LaidErr
import Derived.Lay
import Derived.SevenTiedAt
import Derived.ChangeMaps5
import Derived.Test.YthohfegnphocbaaGreatDoorQ13
import Derived.Test.YthohfegnphocbaaGreatDoorQ14
import Derived.Test.YthohfegnphocbaaGreatDoorQ27
import Derived.Deep.Slices
import Derived.ChangeArms
namespace Go.Proofs.YthohfegnphocbaaGreatDoor
open Go.ChangeShapes Go.WideShapes Go.ChangeAt Go.RowKit
theorem own : ownKnob Tryz.prog.godebug = none := by kernel_rfl
theorem laidOut : laidOutB Tryz.prog = true := by kernel_rfl
theorem wf64 {n : Int} (h : (Lit.int .i64 n).wf = true) : -9223372036854775808 ≤ n ∧ n ≤ 9223372036854775807 := by
  simpa [Lit.wf, IntKind.min, IntKind.max, IntKind.signed, IntKind.bits] using h
def laidL : List (String × DataW Unit) := [("math/bits.deBruijn32tab", Rows.laid_math_bits_deBruijn32tab), ("math/bits.deBruijn64tab", Rows.laid_math_bits_deBruijn64tab), ("internal/strconv.uint64pow10", Rows.laid_internal_strconv_uint64pow10), ("unicode/utf8.acceptRanges", Rows.laid_unicode_utf8_acceptRanges), ("strconv.ErrRange", Rows.laid_strconv_ErrRange), ("strconv.ErrSyntax", Rows.laid_strconv_ErrSyntax), ("boscage/token.signs", Rows.laid_boscage_token_signs), ("unicode.CaseRanges", Rows.laid_unicode_CaseRanges), ("unicode/utf8.first", Rows.laid_unicode_utf8_first)]
theorem gSyn : Tryz.prog.globalNamed "strconv.ErrSyntax" = some 3 := by kernel_rfl
theorem gSynT : (Tryz.prog.globals[3]?).map (·.type) = some 97 := by kernel_rfl
theorem gRng : Tryz.prog.globalNamed "strconv.ErrRange" = some 4 := by kernel_rfl
theorem gRngT : (Tryz.prog.globals[4]?).map (·.type) = some 97 := by kernel_rfl
theorem gSig : Tryz.prog.globalNamed "boscage/token.signs" = some 0 := by kernel_rfl
theorem gSigT : (Tryz.prog.globals[0]?).map (·.type) = some 120 := by kernel_rfl
theorem cells85 : Tryz.prog.cellsOf 199 = 1 := by kernel_rfl
theorem cells9 : Tryz.prog.cellsOf 9 = 1 := by kernel_rfl
theorem starNm : "*" ++ "errors.errorString" = "*errors.errorString" := by decide
theorem rowErr (u : TypeId) (h : Tryz.prog.typeName? 3 u = some "*errors.errorString") : u = 197 :=
  typeName_ptr_named (nm := "errors.errorString") (by rw [starNm]; kernel_rfl) (by kernel_rfl) (by decide) u (by rw [starNm]; exact h)
theorem array_len {H : Type} {enc : TypeId × Value → H} {P : Program} {w : World} {base : Nat} {sp : Nat → Bool} {held : Bool} {fuel : Nat} {t e : TypeId} {n : Nat} {cs : List Value} {x : DataW H × List MemPlace} (ht : P.underlying t = some (.array n e)) (hc : P.cellsOf e = 1) (hct : P.cellsOf t = n)
    (h : DataW.trod enc P w base sp held fuel t cs = some x) : cs.length = n := by
  cases fuel with
  | zero => simp [DataW.trod] at h
  | succ fuel =>
    simp only [DataW.trod, ht, hc, Nat.mul_one] at h
    split at h
    · rename_i hl
      exact hl.trans hct
    · cases h
theorem cells52 : Tryz.prog.cellsOf 120 = 18 := by kernel_rfl
theorem sigs_of {W : World} (h : Lib.VarReads Tryz.prog W "boscage/token.signs" Rows.laid_boscage_token_signs) : ∃ tt fr, W.heap[0]? = some (.cells sigV tt fr) := by
  obtain ⟨g, t, cs, fuel, p, h1, h2, h3, h4⟩ := h
  obtain rfl := Option.some.inj (gSig.symm.trans h1)
  obtain rfl := Option.some.inj (gSigT.symm.trans h2)
  have hlen : cs.toList.length = 18 := by
    exact array_len Tryz.underlying120 cells9 cells52 h4
  have hcs : cs = sigV := by
    apply Array.ext'
    apply List.ext_getElem?
    intro i
    by_cases hi : i < 18
    · obtain ⟨f', d, q, hd, ht⟩ := Lib.array_elem Tryz.underlying120 h4 i hi
      rw [cells9, Nat.mul_one] at ht
      obtain ⟨s, hs, hx, -⟩ := DataW.trod_string Tryz.underlying9 ht
      have hd2 : d = .lit (.string s.data.toList) := congrArg Prod.fst hx
      have h5 : cs.toList[i]? = some (.string s) := by
        have := congrArg (·[0]?) hs
        simpa [List.getElem?_take, List.getElem?_drop] using this
      rw [h5]
      rw [hd2] at hd
      have h6 : ∀ (l : List UInt8), s.data.toList = l → s = str l := fun l h => by rw [← h, list_str]
      have h18 : i = 0 ∨ i = 1 ∨ i = 2 ∨ i = 3 ∨ i = 4 ∨ i = 5 ∨ i = 6 ∨ i = 7 ∨ i = 8 ∨ i = 9 ∨ i = 10 ∨ i = 11 ∨ i = 12 ∨ i = 13 ∨ i = 14 ∨ i = 15 ∨ i = 16 ∨ i = 17 := by omega
      rcases h18 with rfl | rfl | rfl | rfl | rfl | rfl | rfl | rfl | rfl | rfl | rfl | rfl | rfl | rfl | rfl | rfl | rfl | rfl
      all_goals
        injection hd with hd
        injection hd with hd
        injection hd with hd
        rw [h6 _ hd.symm]
        rfl
    · rw [List.getElem?_eq_none (by omega), List.getElem?_eq_none (by show sigV.size ≤ i; exact Nat.le_of_not_lt hi)]
  subst hcs
  simp only [World.var?, gSig, Option.bind_some] at h3
  split at h3
  · rename_i c tt fr hc
    injection h3 with h3
    subst h3
    exact ⟨tt, fr, hc⟩
  · cases h3
theorem gPow : Tryz.prog.globalNamed "internal/strconv.uint64pow10" = some 7 := by kernel_rfl
theorem pow_eq : (Rows.laid_internal_strconv_uint64pow10 : DataW Unit) = Lib.tabData .u64 Lib.pow10Tab := by kernel_rfl
theorem tPow : (Tryz.prog.globals[7]?).map (·.type) = some 201 := by kernel_rfl
theorem tab_of_reads {P : Program} {W : World} {name : String} {k : IntKind} {zs : List Int} {g : Nat} {t e : TypeId} {n : Nat}
    (hg : P.globalNamed name = some g) (hty : (P.globals[g]?).map (·.type) = some t) (ht : P.underlying t = some (.array n e)) (he : P.underlying e = some (.int k)) (hce : P.cellsOf e = 1) (hct : P.cellsOf t = n)
    (h : Lib.VarReads P W name (Lib.tabData k zs)) : Lib.TabIs P W name k zs := by
  obtain ⟨g', t', cs, fuel, p, hg', ht', hvar, hd⟩ := h
  obtain rfl := Option.some.inj (hg.symm.trans hg')
  obtain rfl := Option.some.inj (hty.symm.trans ht')
  unfold Lib.TabIs
  rw [hvar, ← Lib.cells_of_tab ht he hce hct hd]
theorem env_of {W : World} (hL : laidMetH Tryz.prog laidL W) (_hsh : W.ShapedOpen Tryz.prog) : Env W := by
  rw [MakeChecks.laidMetH_plain _ _ _ (by kernel_rfl)] at hL
  have hs := sigs_of (Lib.laidMet.reads hL (n := "boscage/token.signs") (d := Rows.laid_boscage_token_signs) (by simp [laidL]))
  have hr := hL.tail.tail.tail.tail
  obtain ⟨a0, s0, hv0, -, -, -⟩ := laid_sentinel hr gRng gRngT Tryz.underlying97 rowErr Tryz.underlying197 Tryz.underlying199 rfl rfl Tryz.underlying9 cells85 cells9
  obtain ⟨a1, s1, hv1, -, -, -⟩ := laid_sentinel hr.tail gSyn gSynT Tryz.underlying97 rowErr Tryz.underlying197 Tryz.underlying199 rfl rfl Tryz.underlying9 cells85 cells9
  have e0 : W.cell? ⟨4, 0, none⟩ = some (.iface 197 (.pointer (some a0))) := by have h0 := World.var?_cell gRng hv0 0; simpa using h0
  have e1 : W.cell? ⟨3, 0, none⟩ = some (.iface 197 (.pointer (some a1))) := by have h0 := World.var?_cell gSyn hv1 0; simpa using h0
  exact ⟨cell_in e0, hs, ⟨_, e1, Or.inr ⟨_, _, rfl⟩⟩, ⟨_, e0, Or.inr ⟨_, _, rfl⟩⟩⟩
theorem gBru : Tryz.prog.globalNamed "math/bits.deBruijn64tab" = some 9 := by kernel_rfl
theorem bvenv_of {W : World} (hL : laidMetH Tryz.prog laidL W) (hsh : W.ShapedOpen Tryz.prog) : BV.Env W := by
  rw [MakeChecks.laidMetH_plain _ _ _ (by kernel_rfl)] at hL
  have htab : Lib.TabIs Tryz.prog W "internal/strconv.uint64pow10" .u64 Lib.pow10Tab :=
    tab_of_reads gPow tPow Tryz.underlying201 Tryz.underlying115 (by kernel_rfl) (by kernel_rfl) (pow_eq ▸ Lib.laidMet.reads hL (n := "internal/strconv.uint64pow10") (d := Rows.laid_internal_strconv_uint64pow10) (by simp [laidL]))
  have hmax : ∃ m, W.cell? ⟨1, 0, none⟩ = some (.int .i64 m) := Go.Proofs.cell_of_shapedOpen_int (zero := #[.int .i64 0]) (t := 3) hsh (of_decide_eq_true (by kernel_rfl)) (by kernel_rfl) rfl (by kernel_rfl) (by kernel_rfl) Tryz.underlying3
  have hsz : 9 < W.heap.size := by
    obtain ⟨g, t, cs, fuel, p, h1, h2, h3, h4⟩ := Lib.laidMet.reads hL (n := "math/bits.deBruijn64tab") (d := Rows.laid_math_bits_deBruijn64tab) (by simp [laidL])
    simp only [World.var?, gBru, Option.bind_some] at h3
    split at h3
    · rename_i hc
      exact (Array.getElem?_eq_some_iff.1 hc).1
    · cases h3
  exact ⟨hsz, hmax, htab⟩
noncomputable def wWorld (os : Os) : World := World.laidAll Tryz.prog os laidL
theorem wWorld_met (os : Os) (args : Array Value) : laidMetH Tryz.prog laidL ((wWorld os).forCall (fun _ _ => 0) ⟨#[], args, []⟩).memory := by
  rw [MakeChecks.laidMetH_plain _ _ _ (by kernel_rfl)]
  exact laidMet_laidAll args (by kernel_rfl) (by kernel_rfl)
theorem witness_zip {H : Type} {enc : TypeId × Value → H} {C : Checked} {os : Os} {f : FuncId} {fn : Func} {s : OpenSpec} {conds : List PathCond} {apart : Bool} {laid : List (String × DataW Unit)} (modest : Bool) (w0 : World) (args : Array Value) (hos : w0.os = os)
    (hv : (w0.forCall (fun _ _ => 0) ⟨#[], args, []⟩).variablesZipB C.prog = true)
    (hr : ((w0.forCall (fun _ _ => 0) ⟨#[], args, []⟩).heap.toList.drop C.prog.globals.size).take ((begin C.prog (fun _ _ => 0) default).world.heap.size - C.prog.globals.size) =
      (begin C.prog (fun _ _ => 0) default).world.heap.toList.drop C.prog.globals.size)
    (hok : Input.okWideB C.prog (w0.forCall (fun _ _ => 0) ⟨#[], args, []⟩) f ⟨#[], args, []⟩ = true)
    (hrow : s.preRow enc C.prog fn conds apart laid (w0.forCall (fun _ _ => 0) ⟨#[], args, []⟩).memory args) :
    ∃ (w : World) (tape : Tape) (i : Input), w.os = os ∧ (w.forCall tape i).Shaped C.prog ∧ i.vars = [] ∧ Input.okWide C.prog (w.forCall tape i) .any w.heap.size f i ∧
      s.preRow enc C.prog fn conds apart laid (w.forCall tape i).memory i.args ∧ ({ modest := modest } : Assume).holds C.prog (lone (Frame.enter C.prog f i.args .normal) [] (w.forCall tape i)) :=
  ⟨w0, fun _ _ => 0, ⟨#[], args, []⟩, hos, World.shaped_of_ZipB hv hr, (Input.okWide_of_okWideB (base := 0) hok).1, (Input.okWide_of_okWideB hok).2, hrow, by
    simp only [Assume.holds]
    exact ⟨by simp, by simp, fun _ => Modest.zero, by simp, by simp⟩⟩
end Go.Proofs.YthohfegnphocbaaGreatDoor
namespace Go.Proofs.YthohfegnphocbaaGreatDoor
open Go.RowKit
mutual
def E.ints : E → Bool
  | .mk _ v _ _ l => decide (-9223372036854775808 ≤ v.i) && decide (v.i ≤ 9223372036854775807) && E.intsL l
def E.intsL : List E → Bool
  | [] => true
  | a :: l => a.ints && E.intsL l
end
theorem intsL_iff {l : List E} : E.intsL l = true ↔ ∀ x ∈ l, x.ints = true := by
  induction l with
  | nil => simp [E.intsL]
  | cons a l ih => simp [E.intsL, ih]
theorem mayL_iff {l : List E} : E.mayL l = true ↔ ∀ x ∈ l, x.may = true := by
  induction l with
  | nil => simp [E.mayL]
  | cons a l ih => simp [E.mayL, ih]
theorem name_ok {n : List UInt8} : nameB n = true ↔ NameOk resB n := by
  rw [name_iff]
  constructor
  · rintro ⟨h1, h2, h3, h4, h5⟩
    refine ⟨h4, ?_, fun c hc => (h5 c hc).1, h2, low_all.2 fun c hc => (h5 c hc).2⟩
    cases n with
    | nil => exact absurd rfl h1
    | cons c r =>
      have := (h5 c (by simp)).1
      simp only [headIs] at h3 ⊢
      unfold isWch at this; rw [h3, Bool.or_false] at this; exact this
  · rintro ⟨h4, h1, h2, h3, h5⟩
    have h6 := low_all.1 h5
    cases n with
    | nil => cases h1
    | cons c r => exact ⟨by simp, h3, isLet_noDig h1, h4, fun x hx => ⟨h2 x hx, h6 x hx⟩⟩
theorem emp_str (l : List UInt8) : BV.emp (str l) = l.isEmpty := by unfold BV.emp; rw [Lib.toList_data, str_list]
theorem vmay_ok {v : Vl} (h : v.may = true) (h1 : -9223372036854775808 ≤ v.i) (h2 : v.i ≤ 9223372036854775807) : VOk v := by
  obtain ⟨k, i, s⟩ := v
  unfold Vl.may BV.mayB at h
  simp only [emp_str] at h
  unfold VOk
  split at h
  · rename_i hk
    simp only [beq_iff_eq, Bool.and_eq_true, List.isEmpty_iff] at hk h
    obtain ⟨rfl, rfl⟩ := h
    subst hk
    exact .inl rfl
  split at h
  · rename_i _ hk
    simp only [beq_iff_eq, Bool.and_eq_true, Bool.or_eq_true, List.isEmpty_iff] at hk h
    obtain ⟨h, rfl⟩ := h
    subst hk
    rcases h with rfl | rfl
    · exact .inr (.inr (.inl rfl))
    · exact .inr (.inl rfl)
  split at h
  · rename_i _ _ hk
    simp only [beq_iff_eq, List.isEmpty_iff] at hk h
    exact .inr (.inr (.inr (.inl ⟨hk, h, h1, h2⟩)))
  split at h
  · rename_i _ _ _ hk
    simp only [beq_iff_eq, Bool.or_eq_true] at hk h
    rcases hk with hk | hk
    · exact .inr (.inr (.inr (.inr (.inl ⟨hk, h⟩))))
    · exact .inr (.inr (.inr (.inr (.inr ⟨hk, h⟩))))
  · cases h
theorem vok_may {v : Vl} (h : VOk v) : v.may = true := by
  unfold Vl.may BV.mayB
  simp only [emp_str]
  rcases h with rfl | rfl | rfl | ⟨h, hs, -, -⟩ | ⟨h, hi⟩ | ⟨h, hi⟩
  · rfl
  · rfl
  · rfl
  · simp [h, hs]
  · simp [h, hi]
  · simp [h, hi]
theorem list_two {l : List E} (h : l.length = 2) : ∃ x y, l = [x, y] := by
  rcases l with _ | ⟨x, _ | ⟨y, _ | ⟨z, l⟩⟩⟩ <;> simp at h
  exact ⟨x, y, rfl⟩
theorem list_one {l : List E} (h : l.length = 1) : ∃ x, l = [x] := by
  rcases l with _ | ⟨x, _ | ⟨y, l⟩⟩ <;> simp at h
  exact ⟨x, rfl⟩
theorem list_three {l : List E} (h : l.length = 3) : ∃ x y z, l = [x, y, z] := by
  rcases l with _ | ⟨x, _ | ⟨y, _ | ⟨z, _ | ⟨u, l⟩⟩⟩⟩ <;> simp at h
  exact ⟨x, y, z, rfl⟩
theorem may_fine (e : E) : e.may = true → e.ints = true → Fine resB e := by
  induction e using E.ind with
  | h o v t n l ih =>
    intro h hi
    simp only [E.ints, Bool.and_eq_true, decide_eq_true_eq] at hi
    obtain ⟨⟨hi1, hi2⟩, hil⟩ := hi
    rw [intsL_iff] at hil
    rw [E.may] at h
    by_cases h1 : o = wLit
    · rw [if_pos h1] at h
      simp only [Bool.and_eq_true, beq_iff_eq, List.isEmpty_iff] at h
      obtain ⟨⟨⟨rfl, rfl⟩, rfl⟩, hv⟩ := h
      subst h1
      exact .lit v (vmay_ok hv hi1 hi2)
    rw [if_neg h1] at h
    by_cases h2 : o = wCol
    · rw [if_pos h2] at h
      simp only [Bool.and_eq_true, Bool.or_eq_true, beq_iff_eq, List.isEmpty_iff] at h
      obtain ⟨⟨⟨rfl, rfl⟩, hn⟩, ht⟩ := h
      subst h2
      exact .col t n (ht.imp id name_ok.1) (name_ok.1 hn)
    rw [if_neg h2] at h
    by_cases h3 : o = wCall
    · rw [if_pos h3] at h
      simp only [Bool.and_eq_true, Bool.or_eq_true, beq_iff_eq] at h
      obtain ⟨⟨⟨rfl, rfl⟩, hn⟩, hc⟩ := h
      subst h3
      rcases hc with hc | hc
      · unfold countsL at hc
        simp only [Bool.and_eq_true, beq_iff_eq] at hc
        obtain ⟨rfl, hs⟩ := hc
        unfold oneStar at hs
        split at hs
        · rename_i x
          obtain rfl := same_eq hs
          exact .all
        · cases hs
      · rw [mayL_iff] at hc
        exact .call n l (name_ok.1 hn) fun x hx => ih x hx (hc x hx) (hil x hx)
    rw [if_neg h3] at h
    simp only [Bool.and_eq_true, beq_iff_eq, decide_eq_true_eq] at h
    obtain ⟨⟨⟨⟨⟨rfl, rfl⟩, rfl⟩, hle⟩, hmo⟩, hm⟩ := h
    rw [mayL_iff] at hm
    have hf : ∀ x ∈ l, Fine resB x := fun x hx => ih x hx (hm x hx) (hil x hx)
    change Fine resB (op1 o l)
    by_cases c1 : o ∈ ops1
    · rw [least, if_pos c1] at hle
      rw [most, if_pos c1] at hmo
      obtain ⟨x, rfl⟩ := list_one (l := l) (by omega)
      have hx := hf x (by simp)
      simp only [ops1, List.mem_cons, List.not_mem_nil, or_false] at c1
      rcases c1 with rfl | rfl | rfl | rfl
      · exact .neg x hx
      · exact .not x hx
      · exact .isn x hx
      · exact .nn x hx
    rw [least, if_neg c1] at hle
    rw [most, if_neg c1] at hmo
    by_cases c2 : o ∈ ops2
    · rw [if_pos c2] at hle hmo
      obtain ⟨x, y, rfl⟩ := list_two (l := l) (by omega)
      have hx := hf x (by simp)
      have hy := hf y (by simp)
      simp only [ops2, List.mem_cons, List.not_mem_nil, or_false] at c2
      rcases c2 with rfl | rfl | rfl | rfl | rfl | rfl | rfl | rfl | rfl | rfl | rfl | rfl | rfl | rfl | rfl
      all_goals first | exact .bin _ x y (by decide) hx hy | exact .rel _ x y (by decide) hx hy | exact .like x y hx hy
    rw [if_neg c2] at hle hmo
    by_cases c3 : o = wBetween
    · rw [if_pos c3] at hle hmo
      obtain ⟨x, y, z, rfl⟩ := list_three (l := l) (by omega)
      subst c3
      exact .btw x y z (hf x (by simp)) (hf y (by simp)) (hf z (by simp))
    rw [if_neg c3] at hle hmo
    by_cases c4 : o = wIn
    · rw [if_pos c4] at hle hmo
      subst c4
      rcases l with _ | ⟨x, l⟩
      · simp at hle
      · refine .inn x l ?_ (hf x (by simp)) fun y hy => hf y (by simp [hy])
        rintro rfl; simp at hle
    rw [if_neg c4] at hle hmo
    omega
mutual
def E.lens : E → Bool
  | .mk _ _ _ _ l => decide (l.length ≤ 9223372036854775807) && E.lensL l
def E.lensL : List E → Bool
  | [] => true
  | a :: l => a.lens && E.lensL l
end
theorem lensL_iff {l : List E} : E.lensL l = true ↔ ∀ x ∈ l, x.lens = true := by
  induction l with
  | nil => simp [E.lensL]
  | cons a l ih => simp [E.lensL, ih]
theorem sub_lens {S : Nat → Prop} {w : World} (e : E) : ∀ A c, Sub S w e A c → e.lens = true := by
  induction e using E.ind with
  | h o v t n l ih =>
    intro A c h
    obtain ⟨h1, h2, h3⟩ := Sub.eq.1 h
    simp only [E.l] at h1 h3
    simp only [E.lens, Bool.and_eq_true, decide_eq_true_eq, lensL_iff]
    refine ⟨Nat.le_trans h1 (Nat.le_trans h2 (by decide)), fun x hx => ?_⟩
    obtain ⟨j, hj, rfl⟩ := List.getElem_of_mem hx
    obtain ⟨g, off, -, -, -, hl⟩ := h3 (by omega)
    obtain ⟨A', c', -, hs⟩ := hl.get j hj
    exact ih _ hx _ _ hs
theorem eat_lens {S : Nat → Prop} {w : World} {e : E} {x : Value} (h : EAt S w e x) : e.lens = true := by
  obtain ⟨A, c, -, h⟩ := h
  exact sub_lens e A c h
theorem may_op (o : List UInt8) (l : List E) (h : o ∈ allOps) (h1 : least o ≤ l.length) (h2 : l.length ≤ most o) (hm : ∀ x ∈ l, x.may = true) : (op1 o l).may = true := by
  have h3 : ∀ o ∈ allOps, o ≠ wLit ∧ o ≠ wCol ∧ o ≠ wCall := by decide
  obtain ⟨a, b, c⟩ := h3 o h
  simp only [op1, E.may, if_neg a, if_neg b, if_neg c, Bool.and_eq_true, beq_iff_eq, decide_eq_true_eq, mayL_iff]
  refine ⟨⟨⟨⟨⟨?_, ?_⟩, ?_⟩, h1⟩, h2⟩, hm⟩ <;> first | rfl | trivial
theorem fine_may {e : E} (h : Fine resB e) : e.lens = true → e.may = true := by
  have one : ∀ (o : List UInt8) (x : E), (op1 o [x]).lens = true → x.lens = true := fun o x hs => by
    simp only [op1, E.lens, E.lensL, Bool.and_eq_true] at hs
    exact hs.2.1
  have two : ∀ (o : List UInt8) (x y : E), (op1 o [x, y]).lens = true → x.lens = true ∧ y.lens = true := fun o x y hs => by
    simp only [op1, E.lens, E.lensL, Bool.and_eq_true] at hs
    exact ⟨hs.2.1, hs.2.2.1⟩
  induction h with
  | lit v hv => intro _; simp [lit, E.may, vok_may hv]
  | col t n ht hn =>
    intro _
    have h1 := name_ok.2 hn
    rw [col, E.may, if_neg (by decide), if_pos rfl]
    simp only [Bool.and_eq_true, Bool.or_eq_true, beq_iff_eq, List.isEmpty_iff]
    refine ⟨⟨⟨?_, ?_⟩, h1⟩, ht.imp id name_ok.2⟩ <;> first | rfl | trivial
  | call n l hn hl ih =>
    intro hs
    simp only [call1, E.lens, Bool.and_eq_true, lensL_iff] at hs
    rw [call1, E.may, if_neg (by decide), if_neg (by decide), if_pos rfl]
    simp only [Bool.and_eq_true, Bool.or_eq_true, beq_iff_eq]
    refine ⟨⟨⟨?_, ?_⟩, name_ok.2 hn⟩, .inr (mayL_iff.2 fun x hx => ih x hx (hs.2 x hx))⟩ <;> first | rfl | trivial
  | all => intro _; rfl
  | neg x hx ih => intro hs; exact may_op _ _ (by decide) (show least wNeg ≤ 1 by decide) (show 1 ≤ most wNeg by decide) (by simpa using ih (one _ _ hs))
  | not x hx ih => intro hs; exact may_op _ _ (by decide) (show least wNot ≤ 1 by decide) (show 1 ≤ most wNot by decide) (by simpa using ih (one _ _ hs))
  | isn x hx ih => intro hs; exact may_op _ _ (by decide) (show least wIsnull ≤ 1 by decide) (show 1 ≤ most wIsnull by decide) (by simpa using ih (one _ _ hs))
  | nn x hx ih => intro hs; exact may_op _ _ (by decide) (show least wNotnull ≤ 1 by decide) (show 1 ≤ most wNotnull by decide) (by simpa using ih (one _ _ hs))
  | bin w x y hw hx hy ihx ihy =>
    intro hs
    have hh : ∀ w ∈ binOps, w ∈ allOps ∧ least w = 2 ∧ most w = 2 := by decide
    obtain ⟨a, b, c⟩ := hh w hw
    exact may_op _ _ a (by rw [b]; exact Nat.le_refl 2) (by rw [c]; exact Nat.le_refl 2) (by simp [ihx (two _ _ _ hs).1, ihy (two _ _ _ hs).2])
  | rel w x y hw hx hy ihx ihy =>
    intro hs
    have hh : ∀ w ∈ rels, w ∈ allOps ∧ least w = 2 ∧ most w = 2 := by decide
    obtain ⟨a, b, c⟩ := hh w hw
    exact may_op _ _ a (by rw [b]; exact Nat.le_refl 2) (by rw [c]; exact Nat.le_refl 2) (by simp [ihx (two _ _ _ hs).1, ihy (two _ _ _ hs).2])
  | like x y hx hy ihx ihy => intro hs; exact may_op _ _ (by decide) (show least wLike ≤ 2 by decide) (show 2 ≤ most wLike by decide) (by simp [ihx (two _ _ _ hs).1, ihy (two _ _ _ hs).2])
  | btw x y z hx hy hz ihx ihy ihz =>
    intro hs
    simp only [op1, E.lens, E.lensL, Bool.and_eq_true] at hs
    exact may_op _ _ (by decide) (show least wBetween ≤ 3 by decide) (show 3 ≤ most wBetween by decide) (by simp [ihx hs.2.1, ihy hs.2.2.1, ihz hs.2.2.2.1])
  | inn x l hne hx hl ihx ihl =>
    intro hs
    simp only [op1, E.lens, E.lensL, Bool.and_eq_true, decide_eq_true_eq, lensL_iff] at hs
    refine may_op _ _ (by decide) ?_ ?_ ?_
    · rcases l with _ | ⟨y, l⟩
      · exact absurd rfl hne
      · show least wIn ≤ _
        have : least wIn = 2 := by decide
        rw [this]; simp
    · have : most wIn = 9223372036854775807 := by decide
      rw [this]; exact hs.1
    · intro y hy
      rcases List.mem_cons.mp hy with rfl | hy
      · exact ihx hs.2.1
      · exact ihl y hy (hs.2.2 y hy)
theorem fine_sn {e : E} (h : Fine resB e) : e.sn = true := by
  induction h with
  | lit v hv => rfl
  | col t n ht hn =>
    have h1 := hn.2.2.2.1
    have h2 : t.length ≤ 32 := by
      rcases ht with rfl | ht
      · simp
      · exact ht.2.2.2.1
    simp only [col, E.sn, E.snL, Bool.and_eq_true, decide_eq_true_eq]
    exact ⟨⟨by omega, by omega⟩, trivial⟩
  | call n l hn hl ih =>
    have h1 := hn.2.2.2.1
    simp only [call1, E.sn, Bool.and_eq_true, decide_eq_true_eq, snL_iff]
    exact ⟨⟨by simp, by omega⟩, ih⟩
  | all => rfl
  | neg x hx ih => simp [op1, E.sn, E.snL, ih]
  | not x hx ih => simp [op1, E.sn, E.snL, ih]
  | isn x hx ih => simp [op1, E.sn, E.snL, ih]
  | nn x hx ih => simp [op1, E.sn, E.snL, ih]
  | bin w x y hw hx hy ihx ihy => simp [op1, E.sn, E.snL, ihx, ihy]
  | rel w x y hw hx hy ihx ihy => simp [op1, E.sn, E.snL, ihx, ihy]
  | like x y hx hy ihx ihy => simp [op1, E.sn, E.snL, ihx, ihy]
  | btw x y z hx hy hz ihx ihy ihz => simp [op1, E.sn, E.snL, ihx, ihy, ihz]
  | inn x l hne hx hl ihx ihl =>
    simp only [op1, E.sn, E.snL, Bool.and_eq_true, decide_eq_true_eq, snL_iff]
    exact ⟨⟨by simp, by simp⟩, ihx, ihl⟩
end Go.Proofs.YthohfegnphocbaaGreatDoor
namespace Go.Proofs.YthohfegnphocbaaGreatDoor
open Go.RowKit
theorem cut_fin (l : List UInt8) : ∀ p ts, cutP p l = .ok ts → ∃ vs, ts = vs ++ [⟨6, [], 0, p + l.length⟩] ∧ ∀ t ∈ vs, t.k ≠ 6 := by
  refine cut_ind (P := fun l => ∀ p ts, cutP p l = .ok ts → ∃ vs, ts = vs ++ [⟨6, [], 0, p + l.length⟩] ∧ ∀ t ∈ vs, t.k ≠ 6) (fun l ih p ts h => ?_) l
  rw [cutP_eq p l] at h
  by_cases hl : l.drop (bl false l) = []
  · rw [if_pos hl] at h
    cases h
    exact ⟨[], by rw [drop_end hl]; rfl, fun t ht => by cases ht⟩
  · rw [if_neg hl] at h
    cases ho : oneT (l.drop (bl false l)) with
    | none => rw [ho] at h; cases h
    | some t =>
      rw [ho] at h
      simp only at h
      have hn := oneT_len ho
      have hb := bl_le false l
      rw [List.length_drop] at hn
      cases hc : cutP (p + bl false l + t.n) (l.drop (bl false l + t.n)) with
      | error q => rw [hc] at h; cases h
      | ok us =>
        rw [hc] at h; cases h
        obtain ⟨vs, h1, h2⟩ := ih t hl ho _ _ hc
        obtain ⟨h3, h4⟩ := oneT_tk ho
        refine ⟨_ :: vs, by rw [h1, List.cons_append, List.length_drop]; congr 4; omega, fun u hu => ?_⟩
        rcases List.mem_cons.mp hu with rfl | hu
        · simp only; omega
        · exact h2 u hu
theorem ahd_end {vs : List T} (h : ∀ t ∈ vs, t.k ≠ 6) (p : Nat) : ahd (vs ++ [⟨6, [], 0, p⟩]) = vs.length := by
  induction vs with
  | nil => simp [ahd]
  | cons t vs ih =>
    rw [List.cons_append, ahd, if_neg (h t (by simp)), ih fun u hu => h u (by simp [hu])]
    rfl
theorem of_ln {ts : List T} {x : E} {m : Nat} (h : ln resB 1 ts = .ok (x, m)) : ∃ f, pLine resB f 1 ts = okR x m := by
  obtain ⟨f, hf⟩ := lm_line resB ts (n := 1) (by omega) (by omega)
  have hf' : pLine resB f 1 ts = some (ln resB 1 ts) := hf f (Nat.le_refl _)
  exact ⟨f, by rw [hf', h]; rfl⟩
theorem par_inv {l : List UInt8} (h : (parP l).2.2 = 0) : ∃ vs f x, l.length ≤ 4096 ∧ cutP 0 l = .ok (vs ++ [⟨6, [], 0, l.length⟩]) ∧ pLine resB f 1 (vs ++ [⟨6, [], 0, l.length⟩]) = okR x vs.length ∧ x.deep ≤ 40 ∧ parP l = (x, 0, 0) ∧ Fine resB x := by
  have hp : parP l = parP l := rfl
  revert h
  conv => lhs; unfold parP
  conv at hp => rhs; unfold parP
  by_cases hl : 4096 < l.length
  · rw [if_pos hl]; intro h; cases h
  rw [if_neg hl] at hp ⊢
  cases hc : cutP 0 l with
  | error q => intro h; cases h
  | ok ts =>
    rw [hc] at hp
    simp only at hp ⊢
    by_cases he : (atX ts 0).2.2 = 0
    · rw [if_pos he] at hp ⊢
      by_cases hk : (here (ts.drop (atX ts 0).2.1)).k = 6
      · rw [if_pos hk] at hp ⊢
        intro _
        obtain ⟨vs, hvs, hne⟩ := cut_fin l 0 ts hc
        rw [Nat.zero_add] at hvs
        have h6 := ahd_end hne l.length
        rw [← hvs] at h6
        have hok := cut_ok l 0 ts hc
        unfold atX at he hk hp
        rw [List.drop_zero] at he hk hp
        cases hln : ln resB 1 ts with
        | error q => rw [hln] at he; cases he
        | ok am =>
          obtain ⟨x, m⟩ := am
          rw [hln] at he hk hp
          simp only at he hk hp
          by_cases hd : 40 < x.deep
          · rw [if_pos hd] at he; cases he
          · rw [if_neg hd] at hk hp
            simp only [Nat.zero_add] at hk hp
            obtain ⟨-, hfit⟩ := ln_fit (l := ts) (n := 1) (by omega) (by omega)
            obtain ⟨hm1, hm2⟩ := hfit x m hln
            have hm : m = vs.length := by
              rw [h6] at hm2
              rcases Nat.lt_or_ge m vs.length with hlt | hge
              · exfalso
                rw [hvs, List.drop_append_of_le_length (by omega), List.drop_eq_getElem_cons hlt] at hk
                exact hne _ (List.getElem_mem hlt) hk
              · omega
            obtain ⟨f, hf⟩ := of_ln hln
            subst hm
            have hfine := fine_line hok hf
            rw [hvs] at hf
            exact ⟨vs, f, x, by omega, by rw [hvs], hf, by omega, hp, hfine⟩
      · rw [if_neg hk]; intro h; cases h
    · rw [if_neg he]; intro h; exact absurd h he
theorem keysB : Keys resB := ⟨by decide, by decide, by decide, by decide⟩
theorem countB : resB wCount = false := by decide
theorem txt_ne {x : E} (h : Fine resB x) : x.txt ≠ [] := by
  intro h0
  obtain ⟨ts, f, hc, hlen, -, -⟩ := text_back keysB countB h
  obtain ⟨t, l, ht, -⟩ := (well keysB countB h).th
  rw [h0] at hc
  have hc' : cutP 0 [] = .ok [⟨6, [], 0, 0⟩] := rfl
  rw [hc'] at hc
  injection hc with hc
  subst hc
  rw [ht] at hlen
  simp at hlen
end Go.Proofs.YthohfegnphocbaaGreatDoor
namespace Go.Proofs.YthohfegnphocbaaGreatDoor
open Go.RowKit
mutual
def E.size : E → Nat
  | .mk _ _ _ _ l => E.sizeL l + 1
def E.sizeL : List E → Nat
  | [] => 0
  | x :: l => x.size + E.sizeL l
end
theorem deep_size (e : E) : e.deep ≤ e.size := by
  induction e using E.ind with
  | h o v t n l ih =>
    simp only [E.deep, E.size]
    suffices E.deepL l ≤ E.sizeL l by omega
    clear o v t n
    induction l with
    | nil => simp [E.deepL, E.sizeL]
    | cons x l ihl =>
      have h1 := ih x (by simp)
      have h2 := ihl fun y hy => ih y (by simp [hy])
      simp only [E.deepL, E.sizeL]
      omega
theorem chk_ok {e : E} : chkE e = 0 ↔ e.may = true ∧ e.deep ≤ 40 := by
  unfold chkE
  cases e.may
  · simp
  · by_cases h : 40 < e.deep
    · rw [if_pos rfl, if_pos h]
      refine Iff.intro (fun h => absurd h (by decide)) (fun h => absurd h.2 (by omega))
    · rw [if_pos rfl, if_neg h]
      refine Iff.intro (fun _ => And.intro rfl (by omega)) (fun _ => rfl)
end Go.Proofs.YthohfegnphocbaaGreatDoor
namespace Go.Proofs.YthohfegnphocbaaGreatDoor
open Go.RowKit Go.ChangeShapes Go.WideShapes Go.Deep
section
variable {H : Type} {enc : TypeId × Value → H} {W : World}
end
end Go.Proofs.YthohfegnphocbaaGreatDoor
