/- Plain facts on deeds (no program): what each word does with its parts' values; of values that may be it tells such; how great these get. No condition. -/
import Derived.Test.YtcmbdghbicjljaaGreatDoorQ04
import Derived.Test.YtcmbdghbicjljaaGreatDoorQ13
import Derived.Test.YtcmbdghbicjljaaGreatDoorQ14
import Derived.Test.YtcmbdghbicjljaaGreatDoorQ12
import Derived.Test.YtcmbdghbicjljaaGreatDoorQ02
import Derived.Test.YtcmbdghbicjljaaGreatDoorQ16
import Derived.Test.YtcmbdghbicjljaaGreatDoorQ03
import Derived.Laws.EntriesVeiled
import Derived.Test.YtcmbdghbicjljaaGreatDoorQ11
import Derived.Deep.RegionHeld3
import Derived.Deep.DeepCutAuto
set_option linter.unusedSimpArgs false
set_option linter.unusedVariables false
namespace Go.Proofs.YtcmbdghbicjljaaGreatDoor
open Go.RowKit
def fCoalesce : List UInt8 := [99, 111, 97, 108, 101, 115, 99, 101]
def fNullif : List UInt8 := [110, 117, 108, 108, 105, 102]
def fAbs : List UInt8 := [97, 98, 115]
def fSign : List UInt8 := [115, 105, 103, 110]
def fLength : List UInt8 := [108, 101, 110, 103, 116, 104]
def fLower : List UInt8 := [108, 111, 119, 101, 114]
def fUpper : List UInt8 := [117, 112, 112, 101, 114]
def fTrim : List UInt8 := [116, 114, 105, 109]
def fSubstr : List UInt8 := [115, 117, 98, 115, 116, 114]
def fInstr : List UInt8 := [105, 110, 115, 116, 114]
def fReplace : List UInt8 := [114, 101, 112, 108, 97, 99, 101]
def at0 (l : List BV.V) : BV.V := l.getD 0 zW
def at1 (l : List BV.V) : BV.V := l.getD 1 zW
def at2 (l : List BV.V) : BV.V := l.getD 2 zW
def nuV (n : Int) : BV.V := ⟨2, n, ⟨#[]⟩⟩
def txtV (s : ByteArray) : BV.V := ⟨3, 0, s⟩
def tru (b : Bool) : BV.V := ⟨1, if b then 1 else 0, ⟨#[]⟩⟩
def dNeg (a : BV.V) : Ans := (SC.arE ⟨#[45]⟩ (SC.nV 0) a, SC.arV ⟨#[45]⟩ (SC.nV 0) a)
def dNullif (a b : BV.V) : Ans := (0, if BV.sameB a.k a.i a.s b.k b.i b.s = true then zW else a)
def dAbs (a : BV.V) : Ans := if a.i < 0 then dNeg a else (0, a)
def dSign (a : BV.V) : Ans := (0, nuV (BV.cmpI a.i 0))
def dSubstr (a b c : BV.V) : Ans := if c.i < 0 then (1, zW) else (0, ⟨a.k, 0, SC.pc a.s b.i c.i⟩)
def dInstr (a b : BV.V) : Ans := (0, nuV (Lib.index a.s.data.toList b.s.data.toList + 1))
def replN (a b c : BV.V) : Int := a.s.size + (Lib.count a.s.data.toList b.s.data.toList : Int) * ((c.s.size : Int) - b.s.size)
def dReplace (a b c : BV.V) : Ans := if b.s = ⟨#[]⟩ then (0, a) else if 100000 < replN a b c then (30, zW) else (0, txtV ⟨(Lib.replaceAll a.s.data.toList b.s.data.toList c.s.data.toList).toArray⟩)
def firstV : List BV.V → BV.V
  | [] => zW
  | v :: l => if v.k = 0 then firstV l else v
def doP (n : List UInt8) (l : List BV.V) : Ans :=
  if n = fCoalesce then (0, firstV l) else if n = fNullif then dNullif (at0 l) (at1 l) else if n = fAbs then dAbs (at0 l) else if n = fSign then dSign (at0 l)
  else if n = fLength then (0, nuV (at0 l).s.size) else if n = fLower then (0, txtV (SC.turnedB 65 (at0 l).s)) else if n = fUpper then (0, txtV (SC.turnedB 97 (at0 l).s))
  else if n = fTrim then (0, txtV (SC.trimS (at0 l).s)) else if n = fSubstr then dSubstr (at0 l) (at1 l) (at2 l) else if n = fInstr then dInstr (at0 l) (at1 l)
  else if n = fReplace then dReplace (at0 l) (at1 l) (at2 l) else (1, zW)
def callX (n : List UInt8) (x : SC.Fn) (l : List BV.V) : Ans :=
  if SC.takesB x.lo x.hi l.length = false ∨ BV.allOk l = false then (1, zW)
  else if x.k0 = 0 then doP n l
  else if SC.okK [x.k0, x.k1, x.k2] l = false then (20, zW) else if SC.nulB l = true then (0, zW) else doP n l
def callP (n : List UInt8) (l : List BV.V) : Ans := match SC.look (str n) with
  | none => (1, zW)
  | some x => callX n x l
def dLike (a b : BV.V) : Ans := if a.k = 0 ∨ b.k = 0 then (0, zW) else if a.k ≠ 3 ∨ b.k ≠ 3 then (20, zW) else match LK.rd b.s.data.toList with
  | none => (40, zW)
  | some us => (0, tru (LK.M us a.s.data.toList))
def bGe : ByteArray := ⟨#[62, 61]⟩
def bLe : ByteArray := ⟨#[60, 61]⟩
def dBetween (a b c : BV.V) : Ans := if LG.relE bGe a b ≠ 0 then (LG.relE bGe a b, zW) else if LG.relE bLe a c ≠ 0 then (LG.relE bLe a c, zW) else (LG.ctL [LG.relR bGe a b, LG.relR bLe a c], LG.decV false [LG.relR bGe a b, LG.relR bLe a c])
def one1 (f : BV.V → Ans) : List BV.V → Ans
  | [a] => f a
  | _ => (1, zW)
def two2 (f : BV.V → BV.V → Ans) : List BV.V → Ans
  | [a, b] => f a b
  | _ => (1, zW)
def three3 (f : BV.V → BV.V → BV.V → Ans) : List BV.V → Ans
  | [a, b, c] => f a b c
  | _ => (1, zW)
def dIn : List BV.V → Ans
  | [] => (1, zW)
  | a :: l => (LG.inE a l, LG.inR a l)
def arOps : List (List UInt8) := [[43], [45], [42], [47], [37]]
def relOps : List (List UInt8) := [[61], [60, 62], [60], [60, 61], [62], [62, 61]]
def wJoin : List UInt8 := [124, 124]
def deedP : Deeds := fun o n vs =>
  if o = wNeg then one1 dNeg vs
  else if o ∈ arOps then two2 (fun a b => (SC.arE (str o) a b, SC.arV (str o) a b)) vs
  else if o = wJoin then two2 (fun a b => (SC.joE a b, SC.joV a b)) vs
  else if o = wCall then callP n vs
  else if o = wNot then one1 (fun a => (LG.ctL [a], LG.notV a)) vs
  else if o = wAnd then (LG.ctL vs, LG.decV false vs)
  else if o = wOr then (LG.ctL vs, LG.decV true vs)
  else if o ∈ relOps then two2 (fun a b => (LG.relE (str o) a b, LG.relR (str o) a b)) vs
  else if o = wIsnull then one1 (fun a => (0, tru (a.k == 0))) vs
  else if o = wNotnull then one1 (fun a => (0, tru (a.k != 0))) vs
  else if o = wIn then dIn vs
  else if o = wLike then two2 dLike vs
  else if o = wBetween then three3 dBetween vs
  else (1, zW)
/-! What they keep. -/
def I64 (v : BV.V) : Prop := -9223372036854775808 ≤ v.i ∧ v.i ≤ 9223372036854775807
theorem chk_iff (v : BV.V) : v.chk = 0 ↔ BV.mayB v.k v.i v.s = true := by
  unfold BV.V.chk BV.chkI
  cases BV.mayB v.k v.i v.s <;> simp
theorem chk_num (n : Int) : (nuV n).chk = 0 := by rw [chk_iff]; simp [nuV, BV.mayB, emp_nil]
theorem look_name {nm : ByteArray} {x : SC.Fn} (h : SC.look nm = some x) : x ∈ SC.fns ∧ x.nm = nm := by
  unfold SC.look at h
  refine ⟨List.mem_of_find?_eq_some h, ?_⟩
  have := List.find?_some h
  rw [beq_iff_eq, Lib.toList_data, Lib.toList_data] at this
  exact ByteArray.ext (Array.ext' this)
theorem deed_cases {P : Ans → Prop} {o n : List UInt8} {vs : List BV.V} (hNeg : o = wNeg → P (one1 dNeg vs)) (hAr : o ∈ arOps → P (two2 (fun a b => (SC.arE (str o) a b, SC.arV (str o) a b)) vs)) (hJo : o = wJoin → P (two2 (fun a b => (SC.joE a b, SC.joV a b)) vs)) (hCall : o = wCall → P (callP n vs)) (hNot : o = wNot → P (one1 (fun a => (LG.ctL [a], LG.notV a)) vs)) (hAnd : o = wAnd → P (LG.ctL vs, LG.decV false vs)) (hOr : o = wOr → P (LG.ctL vs, LG.decV true vs)) (hRel : o ∈ relOps → P (two2 (fun a b => (LG.relE (str o) a b, LG.relR (str o) a b)) vs)) (hIsn : o = wIsnull → P (one1 (fun a => (0, tru (a.k == 0))) vs)) (hNon : o = wNotnull → P (one1 (fun a => (0, tru (a.k != 0))) vs)) (hIn : o = wIn → P (dIn vs)) (hLike : o = wLike → P (two2 dLike vs)) (hBet : o = wBetween → P (three3 dBetween vs)) (hNo : P (1, zW)) : P (deedP o n vs) := by
  unfold deedP
  by_cases h : o = wNeg
  · rw [if_pos h]; exact hNeg h
  rw [if_neg h]
  clear h
  by_cases h : o ∈ arOps
  · rw [if_pos h]; exact hAr h
  rw [if_neg h]
  clear h
  by_cases h : o = wJoin
  · rw [if_pos h]; exact hJo h
  rw [if_neg h]
  clear h
  by_cases h : o = wCall
  · rw [if_pos h]; exact hCall h
  rw [if_neg h]
  clear h
  by_cases h : o = wNot
  · rw [if_pos h]; exact hNot h
  rw [if_neg h]
  clear h
  by_cases h : o = wAnd
  · rw [if_pos h]; exact hAnd h
  rw [if_neg h]
  clear h
  by_cases h : o = wOr
  · rw [if_pos h]; exact hOr h
  rw [if_neg h]
  clear h
  by_cases h : o ∈ relOps
  · rw [if_pos h]; exact hRel h
  rw [if_neg h]
  clear h
  by_cases h : o = wIsnull
  · rw [if_pos h]; exact hIsn h
  rw [if_neg h]
  clear h
  by_cases h : o = wNotnull
  · rw [if_pos h]; exact hNon h
  rw [if_neg h]
  clear h
  by_cases h : o = wIn
  · rw [if_pos h]; exact hIn h
  rw [if_neg h]
  clear h
  by_cases h : o = wLike
  · rw [if_pos h]; exact hLike h
  rw [if_neg h]
  clear h
  by_cases h : o = wBetween
  · rw [if_pos h]; exact hBet h
  rw [if_neg h]
  clear h
  exact hNo
/-! How great. -/
def Sm (B : Nat) (v : BV.V) : Prop := I64 v ∧ v.s.size ≤ B
theorem sm_zW (B : Nat) : Sm B zW := ⟨by show (-9223372036854775808 : Int) ≤ 0 ∧ (0 : Int) ≤ 9223372036854775807; omega, Nat.zero_le _⟩
theorem sm_tru (B : Nat) (b : Bool) : Sm B (tru b) := ⟨by unfold I64 tru; cases b <;> simp, Nat.zero_le _⟩
theorem sm_tV (B : Nat) (b : Bool) : Sm B (LG.tV b) := ⟨by unfold I64 LG.tV LG.bi; cases b <;> simp, Nat.zero_le _⟩
theorem sm_num (B : Nat) {n : Int} (h : -9223372036854775808 ≤ n ∧ n ≤ 9223372036854775807) : Sm B (nuV n) := ⟨h, Nat.zero_le _⟩
theorem sm_dec (B : Nat) (b : Bool) (vs : List BV.V) : Sm B (LG.decV b vs) := by
  unfold LG.decV
  repeat' split
  all_goals first | exact sm_tV _ _ | exact sm_zW _
theorem sm_rel (B : Nat) (o : ByteArray) (a b : BV.V) : Sm B (LG.relR o a b) := by
  unfold LG.relR
  split
  · exact sm_tV _ _
  · exact sm_zW _
theorem sm_not (B : Nat) (a : BV.V) : Sm B (LG.notV a) := by
  unfold LG.notV
  repeat' split
  all_goals first | exact sm_tV _ _ | exact sm_zW _
theorem sm_in (B : Nat) (a : BV.V) (l : List BV.V) : Sm B (LG.inR a l) := by
  unfold LG.inR
  repeat' split
  all_goals first | exact sm_dec _ _ _ | exact sm_zW _
theorem numR_in (p : Nat) (a b : Int) : -9223372036854775808 ≤ SC.numR p a b ∧ SC.numR p a b ≤ 9223372036854775807 := by
  unfold SC.numR
  split
  · rename_i h
    unfold SC.numE at h
    split at h
    · omega
    · split at h
      · rename_i h2
        exact SC.okN_iff.1 h2
      · omega
  · omega
theorem sm_ar (B : Nat) (o : ByteArray) (a b : BV.V) : Sm B (SC.arV o a b) := by
  unfold SC.arV
  split
  · exact ⟨numR_in _ _ _, Nat.zero_le _⟩
  · exact sm_zW _
theorem sm_jo (a b : BV.V) : Sm (a.s.size + b.s.size) (SC.joV a b) := by
  unfold SC.joV
  split
  · exact ⟨by show (-9223372036854775808 : Int) ≤ 0 ∧ (0 : Int) ≤ _; omega, by show (a.s ++ b.s).size ≤ _; simp⟩
  · exact sm_zW _
theorem sumS_mem {v : BV.V} {l : List BV.V} (h : v ∈ l) : v.s.size ≤ sumS l := by
  induction l with
  | nil => simp at h
  | cons a l ih =>
    simp only [sumS, List.map_cons, List.sum_cons] at ih ⊢
    rcases List.mem_cons.1 h with rfl | h
    · omega
    · have := ih h; omega
theorem sm_mem {v : BV.V} {l : List BV.V} (hi : ∀ v ∈ l, I64 v) (h : v ∈ l) : Sm (max 100000 (sumS l)) v := ⟨hi v h, by have := sumS_mem h; omega⟩
theorem sm_at {l : List BV.V} (hi : ∀ v ∈ l, I64 v) (k : Nat) : Sm (max 100000 (sumS l)) (l.getD k zW) := by
  rw [List.getD_eq_getElem?_getD]
  cases hk : l[k]? with
  | none => exact sm_zW _
  | some v => exact sm_mem hi (List.mem_of_getElem? hk)
theorem sm_first {l : List BV.V} (hi : ∀ v ∈ l, I64 v) : Sm (max 100000 (sumS l)) (firstV l) := by
  have : firstV l = zW ∨ firstV l ∈ l := by
    clear hi
    induction l with
    | nil => exact .inl rfl
    | cons a l ih =>
      unfold firstV
      split
      · rcases ih with h | h
        · exact .inl h
        · exact .inr (by simp [h])
      · exact .inr (by simp)
  rcases this with h | h
  · rw [h]; exact sm_zW _
  · exact sm_mem hi h
theorem repl_size {a b c : BV.V} (h0 : ¬ b.s = ⟨#[]⟩) (h : ¬ 100000 < replN a b c) : (Lib.replaceAll a.s.data.toList b.s.data.toList c.s.data.toList).length ≤ 100000 := by
  have hb : b.s.data.toList ≠ [] := fun hh => h0 (ByteArray.ext (Array.ext' hh))
  have h1 := replaceAll_len a.s.data.toList b.s.data.toList c.s.data.toList hb
  unfold replN at h
  rw [size_list, size_list, size_list] at h1
  generalize Lib.count a.s.data.toList b.s.data.toList = k at *
  generalize (Lib.replaceAll a.s.data.toList b.s.data.toList c.s.data.toList).length = z at *
  rw [Int.mul_sub] at h
  have h2 : (z : Int) + (k : Int) * b.s.size = a.s.size + (k : Int) * c.s.size := by exact_mod_cast h1
  omega
theorem sm_do (n : List UInt8) {l : List BV.V} (hi : ∀ v ∈ l, I64 v) (hs : sumS l ≤ 100000000) : Sm (max 100000 (sumS l)) (doP n l).2 := by
  have h0 := sm_at hi 0
  have hz : (at0 l).s.size ≤ 100000000 := by have := h0.2; unfold at0; omega
  unfold doP
  split
  · exact sm_first hi
  split
  · unfold dNullif; simp only; split
    · exact sm_zW _
    · exact h0
  split
  · unfold dAbs; split
    · exact sm_ar _ _ _ _
    · exact h0
  split
  · refine sm_num _ ?_
    unfold BV.cmpI
    split
    · omega
    · split <;> omega
  split
  · exact sm_num _ (by omega)
  split
  · exact ⟨by show (-9223372036854775808 : Int) ≤ 0 ∧ (0 : Int) ≤ _; omega, by show (SC.turnedB _ _).size ≤ _; rw [turnedB_size]; exact h0.2⟩
  split
  · exact ⟨by show (-9223372036854775808 : Int) ≤ 0 ∧ (0 : Int) ≤ _; omega, by show (SC.turnedB _ _).size ≤ _; rw [turnedB_size]; exact h0.2⟩
  split
  · exact ⟨by show (-9223372036854775808 : Int) ≤ 0 ∧ (0 : Int) ≤ _; omega, Nat.le_trans (trimS_size _) h0.2⟩
  split
  · unfold dSubstr; split
    · exact sm_zW _
    · exact ⟨by show (-9223372036854775808 : Int) ≤ 0 ∧ (0 : Int) ≤ _; omega, Nat.le_trans (pc_size _ _ _) h0.2⟩
  split
  · refine sm_num _ ?_
    have h1 := Lib.index_le (at0 l).s.data.toList (at1 l).s.data.toList
    have h2 := Lib.index_ge (at0 l).s.data.toList (at1 l).s.data.toList
    rw [size_list] at h1
    omega
  split
  · unfold dReplace; split
    · exact h0
    · rename_i h1
      split
      · exact sm_zW _
      · rename_i h2
        refine ⟨by show (-9223372036854775808 : Int) ≤ 0 ∧ (0 : Int) ≤ _; omega, ?_⟩
        have := repl_size h1 h2
        show (⟨_⟩ : ByteArray).size ≤ _
        simp only [ByteArray.size, List.size_toArray]
        omega
  · exact sm_zW _
theorem sm_call (n : List UInt8) {l : List BV.V} (hi : ∀ v ∈ l, I64 v) (hs : sumS l ≤ 100000000) : Sm (max 100000 (sumS l)) (callP n l).2 := by
  unfold callP
  split
  · exact sm_zW _
  · unfold callX
    repeat' split
    all_goals first | exact sm_zW _ | exact sm_do n hi hs
theorem deeds_small : Small deedP := by
  intro o n vs hi hs
  show Sm (max 100000 (sumS vs)) _
  have one : ∀ {f : BV.V → Ans} (_ : ∀ a, Sm (max 100000 (sumS vs)) (f a).2), Sm (max 100000 (sumS vs)) (one1 f vs).2 := by
    intro f hf
    unfold one1
    split
    · exact hf _
    · exact sm_zW _
  have two : ∀ {f : BV.V → BV.V → Ans} (_ : ∀ a b, Sm (a.s.size + b.s.size) (f a b).2), Sm (max 100000 (sumS vs)) (two2 f vs).2 := by
    intro f hf
    unfold two2
    split
    · rename_i a b
      have := hf a b
      exact ⟨this.1, Nat.le_trans this.2 (by simp [sumS]; omega)⟩
    · exact sm_zW _
  refine deed_cases (P := fun a => Sm (max 100000 (sumS vs)) a.2) ?_ ?_ ?_ ?_ ?_ ?_ ?_ ?_ ?_ ?_ ?_ ?_ ?_ (sm_zW _) <;> intro _
  · exact one fun a => sm_ar _ _ _ _
  · exact two fun a b => sm_ar _ _ _ _
  · exact two fun a b => sm_jo _ _
  · exact sm_call n hi hs
  · exact one fun a => sm_not _ _
  · exact sm_dec _ _ _
  · exact sm_dec _ _ _
  · exact two fun a b => sm_rel _ _ _ _
  · exact one fun a => sm_tru _ _
  · exact one fun a => sm_tru _ _
  · unfold dIn; split
    · exact sm_zW _
    · exact sm_in _ _ _
  · refine two fun a b => ?_
    unfold dLike
    repeat' split
    all_goals first | exact sm_zW _ | exact sm_tru _ _
  · unfold three3; split
    · unfold dBetween
      repeat' split
      all_goals first | exact sm_zW _ | exact sm_dec _ _ _
    · exact sm_zW _
end Go.Proofs.YtcmbdghbicjljaaGreatDoor
namespace Go.Proofs.YtcmbdghbicjljaaGreatDoor
open Go.RowKit
open Go.Proofs.YtcmbdghbicjljaaGreatDoor.SC (HV VBox zero_box)
def vA (a : Ans) : Value := .tuple #[.agg #[.int .i64 a.2.k, .int .i64 a.2.i, .string a.2.s], .int .i64 a.1]
def vV (v : BV.V) : Value := .agg #[.int .i64 v.k, .int .i64 v.i, .string v.s]
set_option maxRecDepth 100000 in
theorem refuse_any (x : Value) (w : World) : Calls Tryz.prog 67 #[x] w fun e w' => e = .returned (.tuple #[.agg #[.int .i64 0, .int .i64 0, .string ⟨#[]⟩], .int .i64 1]) ∧ Below w.heap.size w w' := by
  have HZ := Lib.hid (zero_box w)
  obtain ⟨g0, g1, g2⟩ := HZ.out.box.cells
  obtain ⟨f0, f1, f2⟩ := HZ.out.box.free
  simp only [SC.zV] at g0 g1 g2
  go_enter Tryz.func67, Tryz.ntmps67
  go_wp2_with fail
  exact bodyPost_ret (v := .tuple #[.agg #[.int .i64 0, .int .i64 0, .string ⟨#[]⟩], .int .i64 1]) (by simp [results, Tryz.results67, go_sem, g0, g1, g2]) rfl ⟨rfl, (Below.refl w.heap.size w).alloc (Nat.le_refl _) _⟩
set_option maxRecDepth 100000 in
theorem truth_any (b : Bool) (w : World) : Calls Tryz.prog 62 #[.bool b] w fun e w' => e = .returned (.agg #[.int .i64 1, .int .i64 (if b then 1 else 0), .string ⟨#[]⟩]) ∧ Below w.heap.size w w' := by
  have HZ := Lib.hid (zero_box w)
  obtain ⟨g0, g1, g2⟩ := HZ.out.box.cells
  obtain ⟨f0, f1, f2⟩ := HZ.out.box.free
  simp only [SC.zV] at g0 g1 g2
  cases b
  · go_enter Tryz.func62, Tryz.ntmps62
    go_wp2_with fail
    exact bodyPost_ret (v := .agg #[.int .i64 1, .int .i64 0, .string ⟨#[]⟩]) (by simp [results, Tryz.results62, go_sem, g0, g1, g2]) rfl ⟨rfl, (Below.refl w.heap.size w).alloc (Nat.le_refl _) _⟩
  · go_enter Tryz.func62, Tryz.ntmps62
    go_wp2_with fail
    exact bodyPost_ret (v := .agg #[.int .i64 1, .int .i64 1, .string ⟨#[]⟩]) (by simp [results, Tryz.results62, go_sem, g0, g1, g2]) rfl ⟨rfl, (Below.refl w.heap.size w).alloc (Nat.le_refl _) _⟩
set_option maxRecDepth 100000 in
theorem valueAt_any (r : List BV.V) (A : Option Addr) (c : Nat) (i : Int) (w : World) (hr : BV.RowAt w w.heap.size A r) (hm : r.length ≤ 9223372036854775807) :
    Calls Tryz.prog 45 #[.slice A r.length c, .int .i64 i] w fun e w' => e = .returned (vA (atP r i)) ∧ Below w.heap.size w w' := by
  have HZ := Lib.hid (zero_box w)
  obtain ⟨g0, g1, g2⟩ := HZ.out.box.cells
  obtain ⟨f0, f1, f2⟩ := HZ.out.box.free
  simp only [SC.zV] at g0 g1 g2
  unfold vA atP
  by_cases h0 : 0 ≤ i ∧ i < r.length
  · rw [if_pos h0]
    obtain ⟨n, rfl⟩ : ∃ n : Nat, i = n := ⟨i.toNat, by omega⟩
    have hn : n < r.length := by omega
    have hn1 : ¬ (n : Int) < 0 := by omega
    have hn2 : ¬ (r.length : Int) ≤ (n : Int) := by omega
    obtain ⟨b, off, rfl, hb, hc⟩ := hr (by omega)
    obtain ⟨c0, c1, c2⟩ := hc n hn
    have HB := Lib.hid HZ.out.below
    have hb0 := HZ.out.below
    replace c0 := (hb0.cell (p := ⟨b, off + n * 3, none⟩) hb).trans c0
    replace c1 := (hb0.cell (p := ⟨b, off + n * 3 + 1, none⟩) hb).trans c1
    replace c2 := (hb0.cell (p := ⟨b, off + n * 3 + 2, none⟩) hb).trans c2
    have e : r.getD (n : Int).toNat zW = r[n] := by rw [List.getD_eq_getElem?_getD, Int.toNat_natCast, List.getElem?_eq_getElem hn]; rfl
    simp only [e]
    generalize r[n] = u at *
    obtain ⟨uk, ui, us⟩ := u
    simp only at c0 c1 c2 ⊢
    clear hr hc hb0 h0 e
    go_enter Tryz.func45, Tryz.ntmps45
    go_wp2_with fail
    exact bodyPost_ret (v := .tuple #[.agg #[.int .i64 uk, .int .i64 ui, .string us], .int .i64 0]) (by simp [results, Tryz.results45, go_sem, g0, g1, g2]) rfl ⟨rfl, (Below.refl w.heap.size w).alloc (Nat.le_refl _) _⟩
  · rw [if_neg h0]
    have h1 : i < 0 ∨ (¬ i < 0 ∧ (r.length : Int) ≤ i) := by omega
    have HB := Lib.hid HZ.out.below
    clear h0 hr
    rcases h1 with h1 | ⟨h1, h2⟩
    · go_enter Tryz.func45, Tryz.ntmps45
      go_wp2_with fail
      exact bodyPost_ret (v := .tuple #[.agg #[.int .i64 0, .int .i64 0, .string ⟨#[]⟩], .int .i64 1]) (by simp [results, Tryz.results45, go_sem, g0, g1, g2]) rfl ⟨rfl, (Below.refl w.heap.size w).alloc (Nat.le_refl _) _⟩
    · go_enter Tryz.func45, Tryz.ntmps45
      go_wp2_with fail
      exact bodyPost_ret (v := .tuple #[.agg #[.int .i64 0, .int .i64 0, .string ⟨#[]⟩], .int .i64 1]) (by simp [results, Tryz.results45, go_sem, g0, g1, g2]) rfl ⟨rfl, (Below.refl w.heap.size w).alloc (Nat.le_refl _) _⟩
end Go.Proofs.YtcmbdghbicjljaaGreatDoor
namespace Go.Proofs.YtcmbdghbicjljaaGreatDoor
open Go.RowKit
open Go.Proofs.YtcmbdghbicjljaaGreatDoor.SC (HV VBox zero_box Args)
def SBox (w : World) (g : Nat) (s : ByteArray) : Prop := w.heap[g]? = some (.cells #[.string s] 9 (0, 0))
theorem SBox.later {w w' : World} {g : Nat} {s : ByteArray} (h : SBox w g s) (hb : Below w.heap.size w w') : SBox w' g s := (hb.block g (Array.getElem?_eq_some_iff.1 h).1).trans h
theorem SBox.cell {w : World} {g : Nat} {s : ByteArray} (h : SBox w g s) : w.cell? ⟨g, 0, none⟩ = some (.string s) := by rw [Lib.cell_of_heap h]; rfl
def RBox (w : World) (g : Nat) (A : Option Addr) (n c : Nat) : Prop := w.heap[g]? = some (.cells #[.slice A n c] 28 (0, 0))
theorem RBox.later {w w' : World} {g : Nat} {A : Option Addr} {n c : Nat} (h : RBox w g A n c) (hb : Below w.heap.size w w') : RBox w' g A n c := (hb.block g (Array.getElem?_eq_some_iff.1 h).1).trans h
theorem RBox.cell {w : World} {g : Nat} {A : Option Addr} {n c : Nat} (h : RBox w g A n c) : w.cell? ⟨g, 0, none⟩ = some (.slice A n c) := by rw [Lib.cell_of_heap h]; rfl
theorem set3_new {w W : World} (h : Below w.heap.size w W) (x y z : Value) : Below w.heap.size w (((W.setCell ⟨w.heap.size, 0, none⟩ x).setCell ⟨w.heap.size, 1, none⟩ y).setCell ⟨w.heap.size, 2, none⟩ z) := SC.Below.set3 h (Nat.le_refl _) x y z
theorem one_box (w : World) (a : BV.V) : HV w [(w.heap.size + 1, SC.zV), (w.heap.size, a)] ((w.alloc (.cells #[.int .i64 a.k, .int .i64 a.i, .string a.s] 23)).alloc (.cells #[.int .i64 0, .int .i64 0, .string ⟨#[]⟩] 23)) := ((HV.nil w).push a).pushAt (by simp) SC.zV
set_option maxRecDepth 100000 in
theorem dvLit (x : Value) (g : Nat) (v : BV.V) (w : World) (h : VBox w g v) : Calls Tryz.prog 43 #[x, .pointer (some ⟨g, 0, none⟩)] w fun e w' => e = .returned (vA (0, v)) ∧ Below w.heap.size w w' := by
  have HZ := Lib.hid (zero_box w)
  obtain ⟨c0, c1, c2⟩ := (h.later HZ.out.below).cells
  obtain ⟨vk, vi, vs⟩ := v
  simp only at c0 c1 c2
  unfold vA
  clear h
  go_enter Tryz.func43, Tryz.ntmps43
  go_wp2_with fail
  exact bodyPost_ret (v := .tuple #[.agg #[.int .i64 vk, .int .i64 vi, .string vs], .int .i64 0]) (by simp [results, Tryz.results43, go_sem]) rfl ⟨rfl, (Below.refl w.heap.size w).alloc (Nat.le_refl _) _⟩
set_option maxRecDepth 100000 in
theorem dvAt (x : Value) (g h : Nat) (A : Option Addr) (c : Nat) (r : List BV.V) (v : BV.V) (w : World) (hg : RBox w g A r.length c) (hh : VBox w h v) (hr : BV.RowAt w w.heap.size A r) (hm : r.length ≤ 9223372036854775807) :
    Calls Tryz.prog 44 #[x, .pointer (some ⟨g, 0, none⟩), .pointer (some ⟨h, 0, none⟩)] w fun e w' => e = .returned (vA (atP r v.i)) ∧ Below w.heap.size w w' := by
  have HZ := Lib.hid (zero_box w)
  have c0 := (hg.later HZ.out.below).cell
  obtain ⟨d0, d1, d2⟩ := (hh.later HZ.out.below).cells
  have HA := Lib.hid (valueAt_any r A c v.i _ (hr.later HZ.out.below) hm)
  obtain ⟨vk, vi, vs⟩ := v
  simp only at d0 d1 d2 HA ⊢
  unfold vA at *
  generalize atP r vi = an at *
  obtain ⟨er, uk, ui, us⟩ := an
  simp only at HA ⊢
  generalize r.length = n at *
  clear hg hh hr hm
  go_enter Tryz.func44, Tryz.ntmps44
  go_wp2_with fail
  refine (HA.out).mono ?_
  rintro e w2 ⟨rfl, b2⟩
  have P2 := Lib.hid (HZ.out.call b2)
  obtain ⟨g0, g1, g2⟩ := P2.out.box.cells
  obtain ⟨f0, f1, f2⟩ := P2.out.box.free
  simp only [SC.zV] at g0 g1 g2
  clear b2 c0 d0 d1 d2
  go_wp2_with fail
  exact bodyPost_ret (v := .tuple #[.agg #[.int .i64 uk, .int .i64 ui, .string us], .int .i64 er]) (by simp [results, Tryz.results44, go_sem, g0, g1, g2]) rfl ⟨rfl, set3_new P2.out.below _ _ _⟩
theorem set3_at {w W : World} {b : Nat} (h : Below w.heap.size w W) (hb : w.heap.size ≤ b) (x y z : Value) : Below w.heap.size w (((W.setCell ⟨b, 0, none⟩ x).setCell ⟨b, 1, none⟩ y).setCell ⟨b, 2, none⟩ z) := SC.Below.set3 h hb x y z
set_option maxRecDepth 100000 in
theorem dvArith (g : Nat) (op : ByteArray) (a b : BV.V) (w : World) (h : SBox w g op) (ha : I64 a) (hb : I64 b) :
    Calls Tryz.prog 49 #[vV a, vV b, .pointer (some ⟨g, 0, none⟩)] w fun e w' => e = .returned (vA (SC.arE op a b, SC.arV op a b)) ∧ Below w.heap.size w w' := by
  have HZ := Lib.hid (SC.three_boxes w a b)
  have c0 := (h.later HZ.out.below).cell
  obtain ⟨a0, a1, a2⟩ := HZ.out.tail.tail.box.cells
  obtain ⟨b0, b1, b2⟩ := HZ.out.tail.box.cells
  have HA : Hid (∀ W, Calls Tryz.prog 50 #[.string op, vV a, vV b] W fun e w' => e = .returned (vA (SC.arE op a b, SC.arV op a b)) ∧ Below W.heap.size W w') := fun W => SC.arith_any op a b W ha hb
  generalize ((SC.arE op a b, SC.arV op a b) : Ans) = an at *
  unfold vA vV at *
  obtain ⟨er, uk, ui, us⟩ := an
  simp only at HA a0 a1 a2 b0 b1 b2 ⊢
  clear h
  go_enter Tryz.func49, Tryz.ntmps49
  go_wp2_with fail
  refine (HA.out _).mono ?_
  rintro e w2 ⟨rfl, b2⟩
  have P2 := Lib.hid (HZ.out.call b2)
  obtain ⟨g0, g1, g2⟩ := P2.out.box.cells
  obtain ⟨f0, f1, f2⟩ := P2.out.box.free
  simp only [SC.zV] at g0 g1 g2
  clear b2 c0 a0 a1 a2 b0 b1
  go_wp2_with fail
  exact bodyPost_ret (v := .tuple #[.agg #[.int .i64 uk, .int .i64 ui, .string us], .int .i64 er]) (by simp [results, Tryz.results49, go_sem, g0, g1, g2]) rfl ⟨rfl, set3_at P2.out.below (by omega) _ _ _⟩
set_option maxRecDepth 100000 in
theorem dvRel (g : Nat) (op : ByteArray) (a b : BV.V) (w : World) (h : SBox w g op) :
    Calls Tryz.prog 59 #[vV a, vV b, .pointer (some ⟨g, 0, none⟩)] w fun e w' => e = .returned (vA (LG.relE op a b, LG.relR op a b)) ∧ Below w.heap.size w w' := by
  have HZ := Lib.hid (SC.three_boxes w a b)
  have c0 := (h.later HZ.out.below).cell
  obtain ⟨a0, a1, a2⟩ := HZ.out.tail.tail.box.cells
  obtain ⟨b0, b1, b2⟩ := HZ.out.tail.box.cells
  have HA : Hid (∀ W, Calls Tryz.prog 60 #[.string op, vV a, vV b] W fun e w' => e = .returned (vA (LG.relE op a b, LG.relR op a b)) ∧ Below W.heap.size W w') := fun W => LG.rel_any op a b W
  generalize ((LG.relE op a b, LG.relR op a b) : Ans) = an at *
  unfold vA vV at *
  obtain ⟨er, uk, ui, us⟩ := an
  simp only at HA a0 a1 a2 b0 b1 b2 ⊢
  clear h
  go_enter Tryz.func59, Tryz.ntmps59
  go_wp2_with fail
  refine (HA.out _).mono ?_
  rintro e w2 ⟨rfl, b2⟩
  have P2 := Lib.hid (HZ.out.call b2)
  obtain ⟨g0, g1, g2⟩ := P2.out.box.cells
  obtain ⟨f0, f1, f2⟩ := P2.out.box.free
  simp only [SC.zV] at g0 g1 g2
  clear b2 c0 a0 a1 a2 b0 b1
  go_wp2_with fail
  exact bodyPost_ret (v := .tuple #[.agg #[.int .i64 uk, .int .i64 ui, .string us], .int .i64 er]) (by simp [results, Tryz.results59, go_sem, g0, g1, g2]) rfl ⟨rfl, set3_at P2.out.below (by omega) _ _ _⟩
set_option maxRecDepth 100000 in
theorem dvAnd (g : Nat) (vs : List BV.V) (w : World) (h : Args w g vs) (hm : vs.length ≤ 2000) :
    Calls Tryz.prog 55 #[.slice (some ⟨g, 0, none⟩) vs.length vs.length] w fun e w' => e = .returned (vA (LG.ctL vs, LG.decV false vs)) ∧ Below w.heap.size w w' := by
  have HZ := Lib.hid (zero_box w)
  have h1 := h.later HZ.out.below
  have HA : Hid (Calls Tryz.prog 56 #[.slice (some ⟨g, 0, none⟩) vs.length vs.length] (w.alloc (.cells #[.int .i64 0, .int .i64 0, .string ⟨#[]⟩] 23)) fun e w' => e = .returned (vA (LG.ctL vs, LG.decV false vs)) ∧ Below (w.alloc (.cells #[.int .i64 0, .int .i64 0, .string ⟨#[]⟩] 23)).heap.size (w.alloc (.cells #[.int .i64 0, .int .i64 0, .string ⟨#[]⟩] 23)) w') := LG.and_any vs _ vs.length _ h1.row (by omega)
  generalize ((LG.ctL vs, LG.decV false vs) : Ans) = an at *
  unfold vA at *
  obtain ⟨er, uk, ui, us⟩ := an
  simp only at HA ⊢
  generalize vs.length = n at *
  clear h h1 hm
  go_enter Tryz.func55, Tryz.ntmps55
  go_wp2_with fail
  refine (HA.out).mono ?_
  rintro e w2 ⟨rfl, b2⟩
  have P2 := Lib.hid (HZ.out.call b2)
  obtain ⟨g0, g1, g2⟩ := P2.out.box.cells
  obtain ⟨f0, f1, f2⟩ := P2.out.box.free
  simp only [SC.zV] at g0 g1 g2
  clear b2
  go_wp2_with fail
  exact bodyPost_ret (v := .tuple #[.agg #[.int .i64 uk, .int .i64 ui, .string us], .int .i64 er]) (by simp [results, Tryz.results55, go_sem, g0, g1, g2]) rfl ⟨rfl, set3_new P2.out.below _ _ _⟩
set_option maxRecDepth 100000 in
theorem dvOr (g : Nat) (vs : List BV.V) (w : World) (h : Args w g vs) (hm : vs.length ≤ 2000) :
    Calls Tryz.prog 57 #[.slice (some ⟨g, 0, none⟩) vs.length vs.length] w fun e w' => e = .returned (vA (LG.ctL vs, LG.decV true vs)) ∧ Below w.heap.size w w' := by
  have HZ := Lib.hid (zero_box w)
  have h1 := h.later HZ.out.below
  have HA : Hid (Calls Tryz.prog 58 #[.slice (some ⟨g, 0, none⟩) vs.length vs.length] (w.alloc (.cells #[.int .i64 0, .int .i64 0, .string ⟨#[]⟩] 23)) fun e w' => e = .returned (vA (LG.ctL vs, LG.decV true vs)) ∧ Below (w.alloc (.cells #[.int .i64 0, .int .i64 0, .string ⟨#[]⟩] 23)).heap.size (w.alloc (.cells #[.int .i64 0, .int .i64 0, .string ⟨#[]⟩] 23)) w') := LG.or_any vs _ vs.length _ h1.row (by omega)
  generalize ((LG.ctL vs, LG.decV true vs) : Ans) = an at *
  unfold vA at *
  obtain ⟨er, uk, ui, us⟩ := an
  simp only at HA ⊢
  generalize vs.length = n at *
  clear h h1 hm
  go_enter Tryz.func57, Tryz.ntmps57
  go_wp2_with fail
  refine (HA.out).mono ?_
  rintro e w2 ⟨rfl, b2⟩
  have P2 := Lib.hid (HZ.out.call b2)
  obtain ⟨g0, g1, g2⟩ := P2.out.box.cells
  obtain ⟨f0, f1, f2⟩ := P2.out.box.free
  simp only [SC.zV] at g0 g1 g2
  clear b2
  go_wp2_with fail
  exact bodyPost_ret (v := .tuple #[.agg #[.int .i64 uk, .int .i64 ui, .string us], .int .i64 er]) (by simp [results, Tryz.results57, go_sem, g0, g1, g2]) rfl ⟨rfl, set3_new P2.out.below _ _ _⟩
set_option maxRecDepth 100000 in
theorem dvIsnull (a : BV.V) (w : World) : Calls Tryz.prog 61 #[vV a] w fun e w' => e = .returned (vA (0, tru (a.k == 0))) ∧ Below w.heap.size w w' := by
  have HZ := Lib.hid (one_box w a)
  obtain ⟨a0, a1, a2⟩ := HZ.out.tail.box.cells
  have HT := Lib.hid (fun W => truth_any (a.k == 0) W)
  unfold vA vV tru
  generalize hq : (a.k == 0) = q at *
  have hq' : (a.k == 0) = q := hq
  simp only at *
  simp only [SC.zV] at HZ
  generalize a.k = ak at *
  generalize a.i = ai at *
  generalize a.s = as' at *
  generalize (if q = true then (1 : Int) else 0) = ti at *
  clear hq
  go_enter Tryz.func61, Tryz.ntmps61
  go_wp2_with fail
  refine (HT.out _).mono ?_
  rintro e w2 ⟨rfl, b2⟩
  have P2 := Lib.hid (HZ.out.call b2)
  obtain ⟨g0, g1, g2⟩ := P2.out.box.cells
  obtain ⟨f0, f1, f2⟩ := P2.out.box.free
  clear b2 a0 a1 a2 hq'
  go_wp2_with fail
  exact bodyPost_ret (v := .tuple #[.agg #[.int .i64 1, .int .i64 ti, .string ⟨#[]⟩], .int .i64 0]) (by simp [results, Tryz.results61, go_sem, g0, g1, g2]) rfl ⟨rfl, set3_at P2.out.below (by omega) _ _ _⟩
set_option maxRecDepth 100000 in
theorem dvNotnull (a : BV.V) (w : World) : Calls Tryz.prog 63 #[vV a] w fun e w' => e = .returned (vA (0, tru (a.k != 0))) ∧ Below w.heap.size w w' := by
  have HZ := Lib.hid (one_box w a)
  obtain ⟨a0, a1, a2⟩ := HZ.out.tail.box.cells
  have HT := Lib.hid (fun W => truth_any (a.k != 0) W)
  unfold vA vV tru
  generalize hq : (a.k != 0) = q at *
  have hq' : (a.k != 0) = q := hq
  simp only at *
  simp only [SC.zV] at HZ
  generalize a.k = ak at *
  generalize a.i = ai at *
  generalize a.s = as' at *
  generalize (if q = true then (1 : Int) else 0) = ti at *
  clear hq
  go_enter Tryz.func63, Tryz.ntmps63
  go_wp2_with fail
  refine (HT.out _).mono ?_
  rintro e w2 ⟨rfl, b2⟩
  have P2 := Lib.hid (HZ.out.call b2)
  obtain ⟨g0, g1, g2⟩ := P2.out.box.cells
  obtain ⟨f0, f1, f2⟩ := P2.out.box.free
  clear b2 a0 a1 a2 hq'
  go_wp2_with fail
  exact bodyPost_ret (v := .tuple #[.agg #[.int .i64 1, .int .i64 ti, .string ⟨#[]⟩], .int .i64 0]) (by simp [results, Tryz.results63, go_sem, g0, g1, g2]) rfl ⟨rfl, set3_at P2.out.below (by omega) _ _ _⟩
end Go.Proofs.YtcmbdghbicjljaaGreatDoor
namespace Go.Proofs.YtcmbdghbicjljaaGreatDoor
open Go.RowKit
open Go.Proofs.YtcmbdghbicjljaaGreatDoor.SC (HV VBox zero_box Args)
theorem bel_allocE {b w : World} (h : Below b.heap.size b w) (o : Obj) : Below b.heap.size b (w.alloc o) := h.alloc h.size o
theorem bel_drewE {b w : World} (h : Below b.heap.size b w) : Below b.heap.size b w.drew := h.drew
theorem bel_setE {b w : World} {g o : Nat} (hg : b.heap.size ≤ g) (h : Below b.heap.size b w) (u : Value) : Below b.heap.size b (w.setCell ⟨g, o, none⟩ u) := h.setCell (p := ⟨g, o, none⟩) hg _
theorem s9_of {w : World} {g : Nat} {a b c : BV.V} (h : Args w g [a, b, c]) (w' : World) (hb : Below w.heap.size w w') : (fun w' => Below w.heap.size w w' ∧ w'.cell? ⟨g, 0, none⟩ = some (.int .i64 a.k) ∧ w'.cell? ⟨g, 1, none⟩ = some (.int .i64 a.i) ∧ w'.cell? ⟨g, 2, none⟩ = some (.string a.s) ∧ w'.cell? ⟨g, 3, none⟩ = some (.int .i64 b.k) ∧ w'.cell? ⟨g, 4, none⟩ = some (.int .i64 b.i) ∧ w'.cell? ⟨g, 5, none⟩ = some (.string b.s) ∧ w'.cell? ⟨g, 6, none⟩ = some (.int .i64 c.k) ∧ w'.cell? ⟨g, 7, none⟩ = some (.int .i64 c.i) ∧ w'.cell? ⟨g, 8, none⟩ = some (.string c.s) ∧ True) w' := by
  have h' := h.later hb
  exact ⟨hb, h'.cell 0, h'.cell 1, h'.cell 2, h'.cell 3, h'.cell 4, h'.cell 5, h'.cell 6, h'.cell 7, h'.cell 8, trivial⟩
theorem vset {w : World} {b : Nat} {v : BV.V} (h : VBox w b v) (k i : Int) (s : ByteArray) : VBox (((w.setCell ⟨b, 0, none⟩ (.int .i64 k)).setCell ⟨b, 1, none⟩ (.int .i64 i)).setCell ⟨b, 2, none⟩ (.string s)) b ⟨k, i, s⟩ := by
  unfold SC.VBox
  rw [Lib.heap_setCell_same (Lib.heap_setCell_same (Lib.heap_setCell_same h _) _) _]
  rfl
theorem vmade (w : World) (k i : Int) (s : ByteArray) : VBox (w.alloc (.cells #[.int .i64 k, .int .i64 i, .string s] 23)) w.heap.size ⟨k, i, s⟩ := VBox.made w ⟨k, i, s⟩
theorem raw0 {w : World} : VBox (w.alloc (.cells #[.int .i64 0, .int .i64 0, .string ⟨#[]⟩] 23)) w.heap.size SC.zV := VBox.made w SC.zV
theorem vdrew {w : World} {b : Nat} {v : BV.V} (h : VBox w b v) : VBox w.drew b v := h
theorem with_fct {A P : Prop} (h : A) (k : A → P) : P := k h
set_option maxRecDepth 100000 in
set_option maxHeartbeats 8000000 in
theorem dvBetween (g : Nat) (xs : List BV.V) (w : World) (hx : Args w g xs) :
    Calls Tryz.prog 66 #[.slice (some ⟨g, 0, none⟩) xs.length xs.length] w fun e w' => e = .returned (vA (three3 dBetween xs)) ∧ Below w.heap.size w w' := by
  have HZ := Lib.hid (zero_box w)
  have hx1 := hx.later HZ.out.below
  by_cases hl : xs.length = 3
  · obtain ⟨a, b, c, rfl⟩ : ∃ a b c, xs = [a, b, c] := by
      match xs, hl with
      | [a, b, c], _ => exact ⟨_, _, _, rfl⟩
    show Calls Tryz.prog 66 _ _ fun e w' => e = .returned (vA (dBetween a b c)) ∧ _
    have HX := Lib.hid hx1
    have H1 : Hid (∀ w, Calls Tryz.prog 60 #[.string ⟨#[62, 61]⟩, vV a, vV b] w fun e w' => e = .returned (vA (LG.relE bGe a b, LG.relR bGe a b)) ∧ Below w.heap.size w w') := fun w => LG.rel_any bGe a b w
    have H2 : Hid (∀ w, Calls Tryz.prog 60 #[.string ⟨#[60, 61]⟩, vV a, vV c] w fun e w' => e = .returned (vA (LG.relE bLe a c, LG.relR bLe a c)) ∧ Below w.heap.size w w') := fun w => LG.rel_any bLe a c w
    have H3 : Hid (∀ h w, Args w h [LG.relR bGe a b, LG.relR bLe a c] → Calls Tryz.prog 56 #[.slice (some ⟨h, 0, none⟩) 2 2] w fun e w' => e = .returned (vA (LG.ctL [LG.relR bGe a b, LG.relR bLe a c], LG.decV false [LG.relR bGe a b, LG.relR bLe a c])) ∧ Below w.heap.size w w') := fun h w hA => LG.and_any [LG.relR bGe a b, LG.relR bLe a c] _ 2 w hA.row (by simp)
    have hd : dBetween a b c = if LG.relE bGe a b ≠ 0 then (LG.relE bGe a b, zW) else if LG.relE bLe a c ≠ 0 then (LG.relE bLe a c, zW) else (LG.ctL [LG.relR bGe a b, LG.relR bLe a c], LG.decV false [LG.relR bGe a b, LG.relR bLe a c]) := rfl
    rw [hd]
    clear hd
    have F1 := Lib.hid (fun (h : LG.relE bGe a b ≠ 0) => (if_pos h : (if LG.relE bGe a b ≠ 0 then (LG.relE bGe a b, zW) else if LG.relE bLe a c ≠ 0 then (LG.relE bLe a c, zW) else (LG.ctL [LG.relR bGe a b, LG.relR bLe a c], LG.decV false [LG.relR bGe a b, LG.relR bLe a c])) = _))
    have F2 := Lib.hid (fun (h : ¬ LG.relE bGe a b ≠ 0) (h' : LG.relE bLe a c ≠ 0) => ((if_neg h).trans (if_pos h') : (if LG.relE bGe a b ≠ 0 then (LG.relE bGe a b, zW) else if LG.relE bLe a c ≠ 0 then (LG.relE bLe a c, zW) else (LG.ctL [LG.relR bGe a b, LG.relR bLe a c], LG.decV false [LG.relR bGe a b, LG.relR bLe a c])) = _))
    have F3 := Lib.hid (fun (h : ¬ LG.relE bGe a b ≠ 0) (h' : ¬ LG.relE bLe a c ≠ 0) => ((if_neg h).trans (if_neg h') : (if LG.relE bGe a b ≠ 0 then (LG.relE bGe a b, zW) else if LG.relE bLe a c ≠ 0 then (LG.relE bLe a c, zW) else (LG.ctL [LG.relR bGe a b, LG.relR bLe a c], LG.decV false [LG.relR bGe a b, LG.relR bLe a c])) = _))
    generalize (if LG.relE bGe a b ≠ 0 then (LG.relE bGe a b, zW) else if LG.relE bLe a c ≠ 0 then (LG.relE bLe a c, zW) else (LG.ctL [LG.relR bGe a b, LG.relR bLe a c], LG.decV false [LG.relR bGe a b, LG.relR bLe a c])) = fin at *
    obtain ⟨fe, fk, fi, fs⟩ := fin
    generalize ((LG.ctL [LG.relR bGe a b, LG.relR bLe a c], LG.decV false [LG.relR bGe a b, LG.relR bLe a c]) : Ans) = an at *
    obtain ⟨er, uk, ui, us⟩ := an
    generalize LG.relE bGe a b = e1 at *
    generalize LG.relE bLe a c = e2 at *
    generalize LG.relR bGe a b = r1 at *
    generalize LG.relR bLe a c = r2 at *
    obtain ⟨pk, pi, ps⟩ := r1
    obtain ⟨qk, qi, qs⟩ := r2
    unfold vA vV at *
    unfold zW at F1 F2
    simp only [List.length_cons, List.length_nil, Nat.zero_add] at H1 H2 H3 ⊢
    have HV0 := Lib.hid (show VBox (w.alloc (.cells #[.int .i64 0, .int .i64 0, .string ⟨#[]⟩] 23)) w.heap.size SC.zV from HZ.out.box)
    have hz1 : (w.alloc (.cells #[.int .i64 0, .int .i64 0, .string ⟨#[]⟩] 23)).heap.size = w.heap.size + 1 := by simp
    have HZ1 := Lib.hid hz1
    have HB0 := Lib.hid HZ.out.below
    have KP := Lib.hid (s9_of HX.out)
    clear hx hx1 hl hz1 HZ
    go_enter Tryz.func66, Tryz.ntmps66
    go_wp2_with fail
    generalize hW1 : (w.alloc (.cells #[.int .i64 0, .int .i64 0, .string ⟨#[]⟩] 23)) = W1 at *
    have BB := Lib.hid (Below.refl W1.heap.size W1)
    have SS := Lib.hid (KP.out W1 BB.out)
    go_upto_region 3 with fail
    go_cut [4, 5] (fun s4 s5 wx => ∃ g', s4 = .pointer (some ⟨g', 0, none⟩) ∧ s5 = .int .i64 e1 ∧ W1.heap.size ≤ g' ∧ Hid (VBox wx g' ⟨pk, pi, ps⟩) ∧ Hid (Below W1.heap.size W1 wx))
    case first =>
      go_region_held3 (fun w' => Below W1.heap.size W1 w' ∧ w'.cell? ⟨g, 0, none⟩ = some (.int .i64 a.k) ∧ w'.cell? ⟨g, 1, none⟩ = some (.int .i64 a.i) ∧ w'.cell? ⟨g, 2, none⟩ = some (.string a.s) ∧ w'.cell? ⟨g, 3, none⟩ = some (.int .i64 b.k) ∧ w'.cell? ⟨g, 4, none⟩ = some (.int .i64 b.i) ∧ w'.cell? ⟨g, 5, none⟩ = some (.string b.s) ∧ w'.cell? ⟨g, 6, none⟩ = some (.int .i64 c.k) ∧ w'.cell? ⟨g, 7, none⟩ = some (.int .i64 c.i) ∧ w'.cell? ⟨g, 8, none⟩ = some (.string c.s) ∧ True) ((refine KP.out _ ?_; (repeat (first | with_reducible exact BB.out | with_reducible refine bel_drewE ?_ | with_reducible refine bel_allocE ?_ _ | (with_reducible refine bel_setE ?_ ?_ _; focus (simp only [World.size_alloc, World.size_drew] at *; omega)))))) ((go_at_call 60; go_must (refine (H1.out _).mono ?_); rintro e w6 ⟨rfl, hb⟩; refine with_fct (bthen (w := W1) ?_ hb) ?_; (focus (repeat (first | with_reducible exact BB.out | with_reducible refine bel_drewE ?_ | with_reducible refine bel_allocE ?_ _ | (with_reducible refine bel_setE ?_ ?_ _; focus (simp only [World.size_alloc, World.size_drew] at *; omega))))); intro b6; have BB := Lib.hid b6; (try ((first | with_reducible refine with_fct ((vdrew raw0).later hb) ?_ | with_reducible refine with_fct (raw0.later hb) ?_); intro vt; obtain ⟨x0, x1, x2⟩ := vt.cells; obtain ⟨y0, y1, y2⟩ := vt.free; simp only [SC.zV] at x0 x1 x2))))
      all_goals (go_wp2_with fail; go_meet; first | exact ⟨_, rfl, rfl, b6.size, vmade w6 pk pi ps, bel_allocE b6 _⟩ | exact ⟨_, rfl, rfl, Nat.le_refl _, vset vt pk pi ps, SC.Below.set3 b6 (Nat.le_refl _) _ _ _⟩)
    case rest =>
      obtain ⟨g1, rfl, rfl, hg1, hv1, hb1⟩ := hcut
      obtain ⟨wa, rfl⟩ : ∃ wa : World, wa = wc := ⟨_, rfl⟩
      have Z1 := Lib.hid (HV0.out.later hb1.out)
      have B1 := Lib.hid (bthen HB0.out hb1.out)
      have V1 := Lib.hid hv1.out
      have G1 := Lib.hid hg1
      by_cases he1 : e1 = 0
      · subst he1
        have KA := Lib.hid (s9_of (HX.out.later hb1.out))
        clear hg1 hv1 hb1 SS KP BB H1
        have BB := Lib.hid (Below.refl wa.heap.size wa)
        have SS := Lib.hid (KA.out wa BB.out)
        go_upto_region 6 with fail
        go_cut [6, 5] (fun s4 s5 wx => ∃ g', s4 = .pointer (some ⟨g', 0, none⟩) ∧ s5 = .int .i64 e2 ∧ wa.heap.size ≤ g' ∧ Hid (VBox wx g' ⟨qk, qi, qs⟩) ∧ Hid (Below wa.heap.size wa wx))
        case first =>
          go_region_held3 (fun w' => Below wa.heap.size wa w' ∧ w'.cell? ⟨g, 0, none⟩ = some (.int .i64 a.k) ∧ w'.cell? ⟨g, 1, none⟩ = some (.int .i64 a.i) ∧ w'.cell? ⟨g, 2, none⟩ = some (.string a.s) ∧ w'.cell? ⟨g, 3, none⟩ = some (.int .i64 b.k) ∧ w'.cell? ⟨g, 4, none⟩ = some (.int .i64 b.i) ∧ w'.cell? ⟨g, 5, none⟩ = some (.string b.s) ∧ w'.cell? ⟨g, 6, none⟩ = some (.int .i64 c.k) ∧ w'.cell? ⟨g, 7, none⟩ = some (.int .i64 c.i) ∧ w'.cell? ⟨g, 8, none⟩ = some (.string c.s) ∧ True) ((refine KA.out _ ?_; (repeat (first | with_reducible exact BB.out | with_reducible refine bel_drewE ?_ | with_reducible refine bel_allocE ?_ _ | (with_reducible refine bel_setE ?_ ?_ _; focus (simp only [World.size_alloc, World.size_drew] at *; omega)))))) ((go_at_call 60; go_must (refine (H2.out _).mono ?_); rintro e w6 ⟨rfl, hb⟩; refine with_fct (bthen (w := wa) ?_ hb) ?_; (focus (repeat (first | with_reducible exact BB.out | with_reducible refine bel_drewE ?_ | with_reducible refine bel_allocE ?_ _ | (with_reducible refine bel_setE ?_ ?_ _; focus (simp only [World.size_alloc, World.size_drew] at *; omega))))); intro b6; have BB := Lib.hid b6; (try ((first | with_reducible refine with_fct ((vdrew raw0).later hb) ?_ | with_reducible refine with_fct (raw0.later hb) ?_); intro vt; obtain ⟨x0, x1, x2⟩ := vt.cells; obtain ⟨y0, y1, y2⟩ := vt.free; simp only [SC.zV] at x0 x1 x2))))
          all_goals (go_wp2_with fail; go_meet; first | exact ⟨_, rfl, rfl, b6.size, vmade w6 qk qi qs, bel_allocE b6 _⟩ | exact ⟨_, rfl, rfl, Nat.le_refl _, vset vt qk qi qs, SC.Below.set3 b6 (Nat.le_refl _) _ _ _⟩)
        case rest =>
          obtain ⟨g2, rfl, rfl, hg2, hv2, hb2⟩ := hcut
          obtain ⟨wb, rfl⟩ : ∃ wb : World, wb = wc := ⟨_, rfl⟩
          have Z2 := Lib.hid (Z1.out.later hb2.out)
          have B2 := Lib.hid (bthen B1.out hb2.out)
          have V2 := Lib.hid hv2.out
          have V1' := Lib.hid (V1.out.later hb2.out)
          clear hg2 hv2 hb2 SS KA BB H2 V1 Z1
          by_cases he2 : e2 = 0
          · subst he2
            have H3' := Lib.hid (H3.out wb.heap.size _ (SC.args2 (w := wb) (a := ⟨pk, pi, ps⟩) (b := ⟨qk, qi, qs⟩) rfl))
            obtain ⟨a0, a1, a2⟩ := V1'.out.cells
            obtain ⟨b0, b1, b2⟩ := V2.out.cells
            simp only at a0 a1 a2 b0 b1 b2 H3' ⊢
            go_wp2_with fail
            refine (H3'.out).mono ?_
            rintro e w7 ⟨rfl, hb7⟩
            have b7 := bthen (bel_allocE (Below.refl wb.heap.size wb) _) hb7
            have Z3 := Z2.out.later b7
            have B3 := Lib.hid (bthen B2.out b7)
            obtain ⟨g0, g1, g2⟩ := Z3.cells
            obtain ⟨f0, f1, f2⟩ := Z3.free
            simp only [SC.zV] at g0 g1 g2
            clear hb7 b7 a0 a1 a2 b0 b1 b2 Z3
            go_wp2_with fail
            exact bodyPost_ret (v := .tuple #[.agg #[.int .i64 uk, .int .i64 ui, .string us], .int .i64 er]) (by simp [results, Tryz.results66, go_sem, g0, g1, g2]) rfl ⟨by cases F3.out (by simp) (by simp); rfl, set3_new B3.out _ _ _⟩
          · have hbe : (e2 != 0) = true := by simpa using he2
            obtain ⟨g0, g1, g2⟩ := Z2.out.cells
            obtain ⟨f0, f1, f2⟩ := Z2.out.free
            simp only [SC.zV] at g0 g1 g2
            go_wp2_with fail
            exact bodyPost_ret (v := .tuple #[.agg #[.int .i64 0, .int .i64 0, .string ⟨#[]⟩], .int .i64 e2]) (by simp [results, Tryz.results66, go_sem, g0, g1, g2]) rfl ⟨by cases F2.out (by simp) he2; rfl, by first | exact set3_new B2.out _ _ _ | exact B2.out⟩
      · have hbe : (e1 != 0) = true := by simpa using he1
        obtain ⟨g0, g1, g2⟩ := Z1.out.cells
        obtain ⟨f0, f1, f2⟩ := Z1.out.free
        simp only [SC.zV] at g0 g1 g2
        clear hg1 hv1 hb1 SS KP BB H1
        go_wp2_with fail
        exact bodyPost_ret (v := .tuple #[.agg #[.int .i64 0, .int .i64 0, .string ⟨#[]⟩], .int .i64 e1]) (by simp [results, Tryz.results66, go_sem, g0, g1, g2]) rfl ⟨by cases F1.out he1; rfl, by first | exact set3_new B1.out _ _ _ | exact B1.out⟩
  · have hn : ((xs.length : Int) != 3) = true := by simp; omega
    have hno : three3 dBetween xs = (1, zW) := by
      unfold three3
      split
      · simp at hl
      · rfl
    rw [hno]
    have HRF := Lib.hid (fun w => refuse_any (.slice (some ⟨g, 0, none⟩) xs.length xs.length) w)
    unfold vA zW
    generalize xs.length = n at *
    clear hx hx1 hno hl
    go_enter Tryz.func66, Tryz.ntmps66
    go_wp2_with fail
    refine (HRF.out _).mono ?_
    rintro e w2 ⟨rfl, b2⟩
    have P2 := Lib.hid (HZ.out.call b2)
    obtain ⟨g0, g1, g2⟩ := P2.out.box.cells
    obtain ⟨f0, f1, f2⟩ := P2.out.box.free
    simp only [SC.zV] at g0 g1 g2
    clear b2
    go_wp2_with fail
    exact bodyPost_ret (v := .tuple #[.agg #[.int .i64 0, .int .i64 0, .string ⟨#[]⟩], .int .i64 1]) (by simp [results, Tryz.results66, go_sem, g0, g1, g2]) rfl ⟨rfl, set3_new P2.out.below _ _ _⟩
end Go.Proofs.YtcmbdghbicjljaaGreatDoor
