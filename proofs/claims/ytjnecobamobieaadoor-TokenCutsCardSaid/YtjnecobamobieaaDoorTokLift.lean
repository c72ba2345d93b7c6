/- What the rows of this seat give a walk: the signs, and the library's two errors, are there. A world for the witness, in which every listed variable is laid. No condition. -/
import Derived.Test.YtjnecobamobieaaDoorCards
import Derived.Test.YtjnecobamobieaaDoorTie
import Derived.Test.YtjnecobamobieaaDoorTokLive
import Derived.ProofKit
import Derived.OpenShut
import Derived.Deep.DeepHandedRow
import Derived.Lib.LaidTab
import Derived.Lib.LaidU8
import Derived.Stop.LaidErr
import Derived.Lay
import Derived.SevenTiedAt
import Derived.ChangeMaps5
namespace Go.Proofs.YtjnecobamobieaaDoor
open Go.ChangeShapes Go.WideShapes Go.ChangeAt Go.RowKit
theorem own : ownKnob Tryd.prog.godebug = none := by kernel_rfl
theorem laidOut : laidOutB Tryd.prog = true := by kernel_rfl
theorem wf64 {n : Int} (h : (Lit.int .i64 n).wf = true) : -9223372036854775808 ≤ n ∧ n ≤ 9223372036854775807 := by
  simpa [Lit.wf, IntKind.min, IntKind.max, IntKind.signed, IntKind.bits] using h
/-- What every row of this seat lists. -/
def laidL : List (String × DataW Unit) := [("math/bits.deBruijn32tab", Rows.laid_math_bits_deBruijn32tab), ("math/bits.deBruijn64tab", Rows.laid_math_bits_deBruijn64tab), ("internal/strconv.uint64pow10", Rows.laid_internal_strconv_uint64pow10), ("unicode/utf8.acceptRanges", Rows.laid_unicode_utf8_acceptRanges), ("strconv.ErrRange", Rows.laid_strconv_ErrRange), ("strconv.ErrSyntax", Rows.laid_strconv_ErrSyntax), ("boscage/token.signs", Rows.laid_boscage_token_signs), ("unicode.CaseRanges", Rows.laid_unicode_CaseRanges), ("unicode/utf8.first", Rows.laid_unicode_utf8_first)]
theorem gSyn : Tryd.prog.globalNamed "strconv.ErrSyntax" = some 2 := by kernel_rfl
theorem gSynT : (Tryd.prog.globals[2]?).map (·.type) = some 47 := by kernel_rfl
theorem gRng : Tryd.prog.globalNamed "strconv.ErrRange" = some 3 := by kernel_rfl
theorem gRngT : (Tryd.prog.globals[3]?).map (·.type) = some 47 := by kernel_rfl
theorem gSig : Tryd.prog.globalNamed "boscage/token.signs" = some 0 := by kernel_rfl
theorem gSigT : (Tryd.prog.globals[0]?).map (·.type) = some 52 := by kernel_rfl
theorem cells85 : Tryd.prog.cellsOf 85 = 1 := by kernel_rfl
theorem cells9 : Tryd.prog.cellsOf 9 = 1 := by kernel_rfl
theorem star : "*" ++ "errors.errorString" = "*errors.errorString" := by decide
theorem rowErr (u : TypeId) (h : Tryd.prog.typeName? 3 u = some "*errors.errorString") : u = 83 :=
  typeName_ptr_named (nm := "errors.errorString") (by rw [star]; kernel_rfl) (by kernel_rfl) (by decide) u (by rw [star]; exact h)
theorem array_len {H : Type} {enc : TypeId × Value → H} {P : Program} {w : World} {base : Nat} {sp : Nat → Bool} {held : Bool} {fuel : Nat} {t e : TypeId} {n : Nat} {cs : List Value} {x : DataW H × List MemPlace} (ht : P.underlying t = some (.array n e)) (hc : P.cellsOf e = 1) (hct : P.cellsOf t = n)
    (h : DataW.trod enc P w base sp held fuel t cs = some x) : cs.length = n := by
  cases fuel with
  | zero => simp [DataW.trod] at h
  | succ fuel =>
    simp only [DataW.trod, ht, hc, Nat.mul_one] at h
    split at h
    · rename_i hl
      exact hl.trans hct
    · cases h
theorem cells52 : Tryd.prog.cellsOf 52 = 18 := by kernel_rfl
theorem sigs_of {W : World} (h : Lib.VarReads Tryd.prog W "boscage/token.signs" Rows.laid_boscage_token_signs) : ∃ tt fr, W.heap[0]? = some (.cells sigV tt fr) := by
  obtain ⟨g, t, cs, fuel, p, h1, h2, h3, h4⟩ := h
  obtain rfl := Option.some.inj (gSig.symm.trans h1)
  obtain rfl := Option.some.inj (gSigT.symm.trans h2)
  have hlen : cs.toList.length = 18 := by
    exact array_len Tryd.underlying52 cells9 cells52 h4
  have hcs : cs = sigV := by
    apply Array.ext'
    apply List.ext_getElem?
    intro i
    by_cases hi : i < 18
    · obtain ⟨f', d, q, hd, ht⟩ := Lib.array_elem Tryd.underlying52 h4 i hi
      rw [cells9, Nat.mul_one] at ht
      obtain ⟨s, hs, hx, -⟩ := DataW.trod_string Tryd.underlying9 ht
      have hd2 : d = .lit (.string s.data.toList) := congrArg Prod.fst hx
      have h5 : cs.toList[i]? = some (.string s) := by
        have := congrArg (·[0]?) hs
        simpa [List.getElem?_take, List.getElem?_drop] using this
      rw [h5]
      rw [hd2] at hd
      have h6 : ∀ (l : List UInt8), s.data.toList = l → s = str l := fun l h => by rw [← h, list_str]
      have h18 : i = 0 ∨ i = 1 ∨ i = 2 ∨ i = 3 ∨ i = 4 ∨ i = 5 ∨ i = 6 ∨ i = 7 ∨ i = 8 ∨ i = 9 ∨ i = 10 ∨ i = 11 ∨ i = 12 ∨ i = 13 ∨ i = 14 ∨ i = 15 ∨ i = 16 ∨ i = 17 := by omega
      rcases h18 with rfl | rfl | rfl | rfl | rfl | rfl | rfl | rfl | rfl | rfl | rfl | rfl | rfl | rfl | rfl | rfl | rfl | rfl
      all_goals
        injection hd with hd
        injection hd with hd
        injection hd with hd
        rw [h6 _ hd.symm]
        rfl
    · rw [List.getElem?_eq_none (by omega), List.getElem?_eq_none (by show sigV.size ≤ i; exact Nat.le_of_not_lt hi)]
  subst hcs
  simp only [World.var?, gSig, Option.bind_some] at h3
  split at h3
  · rename_i c tt fr hc
    injection h3 with h3
    subst h3
    exact ⟨tt, fr, hc⟩
  · cases h3
theorem env_of {W : World} (hL : laidMetH Tryd.prog laidL W) (_hsh : W.ShapedOpen Tryd.prog) : Env W := by
  rw [MakeChecks.laidMetH_plain _ _ _ (by kernel_rfl)] at hL
  have hs := sigs_of (Lib.laidMet.reads hL (n := "boscage/token.signs") (d := Rows.laid_boscage_token_signs) (by simp [laidL]))
  have hr := hL.tail.tail.tail.tail
  obtain ⟨a0, s0, hv0, -, -, -⟩ := laid_sentinel hr gRng gRngT Tryd.underlying47 rowErr Tryd.underlying83 Tryd.underlying85 rfl rfl Tryd.underlying9 cells85 cells9
  obtain ⟨a1, s1, hv1, -, -, -⟩ := laid_sentinel hr.tail gSyn gSynT Tryd.underlying47 rowErr Tryd.underlying83 Tryd.underlying85 rfl rfl Tryd.underlying9 cells85 cells9
  have e0 : W.cell? ⟨3, 0, none⟩ = some (.iface 83 (.pointer (some a0))) := by have h0 := World.var?_cell gRng hv0 0; simpa using h0
  have e1 : W.cell? ⟨2, 0, none⟩ = some (.iface 83 (.pointer (some a1))) := by have h0 := World.var?_cell gSyn hv1 0; simpa using h0
  exact ⟨cell_in e0, hs, ⟨_, e1, Or.inr ⟨_, _, rfl⟩⟩, ⟨_, e0, Or.inr ⟨_, _, rfl⟩⟩⟩
/-- A world for the witness: every listed variable laid. -/
noncomputable def wWorld (os : Os) : World := World.laidAll Tryd.prog os laidL
theorem wWorld_met (os : Os) (args : Array Value) : laidMetH Tryd.prog laidL ((wWorld os).forCall (fun _ _ => 0) ⟨#[], args, []⟩).memory := by
  rw [MakeChecks.laidMetH_plain _ _ _ (by kernel_rfl)]
  exact laidMet_laidAll args (by kernel_rfl) (by kernel_rfl)
/-- One start that fits, at a world whose variables hold great tables. -/
theorem witness_zip {H : Type} {enc : TypeId × Value → H} {C : Checked} {os : Os} {f : FuncId} {fn : Func} {s : OpenSpec} {conds : List PathCond} {apart : Bool} {laid : List (String × DataW Unit)} (modest : Bool) (w0 : World) (args : Array Value) (hos : w0.os = os)
    (hv : (w0.forCall (fun _ _ => 0) ⟨#[], args, []⟩).variablesZipB C.prog = true)
    (hr : ((w0.forCall (fun _ _ => 0) ⟨#[], args, []⟩).heap.toList.drop C.prog.globals.size).take ((begin C.prog (fun _ _ => 0) default).world.heap.size - C.prog.globals.size) =
      (begin C.prog (fun _ _ => 0) default).world.heap.toList.drop C.prog.globals.size)
    (hok : Input.okWideB C.prog (w0.forCall (fun _ _ => 0) ⟨#[], args, []⟩) f ⟨#[], args, []⟩ = true)
    (hrow : s.preRow enc C.prog fn conds apart laid (w0.forCall (fun _ _ => 0) ⟨#[], args, []⟩).memory args) :
    ∃ (w : World) (tape : Tape) (i : Input), w.os = os ∧ (w.forCall tape i).Shaped C.prog ∧ i.vars = [] ∧ Input.okWide C.prog (w.forCall tape i) .any w.heap.size f i ∧
      s.preRow enc C.prog fn conds apart laid (w.forCall tape i).memory i.args ∧ ({ modest := modest } : Assume).holds C.prog (lone (Frame.enter C.prog f i.args .normal) [] (w.forCall tape i)) :=
  ⟨w0, fun _ _ => 0, ⟨#[], args, []⟩, hos, World.shaped_of_ZipB hv hr, (Input.okWide_of_okWideB (base := 0) hok).1, (Input.okWide_of_okWideB hok).2, hrow, by
    simp only [Assume.holds]
    exact ⟨by simp, by simp, fun _ => Modest.zero, by simp, by simp⟩⟩
end Go.Proofs.YtjnecobamobieaaDoor
