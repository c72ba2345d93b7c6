/- The law's liveness: what its blocks hold as its one great region goes on. No condition. -/
import Derived.Test.YthohfegnphocbaaGreatDoorQ13
import Derived.Test.YthohfegnphocbaaGreatDoorQ14
import Derived.Test.YthohfegnphocbaaGreatDoorQ06
import Derived.Test.YthohfegnphocbaaGreatDoorQ30
import Derived.Test.YthohfegnphocbaaGreatDoorQ15
namespace Go.Proofs.YthohfegnphocbaaGreatDoor
open Go.RowKit
def z7 : List Value := [.string ⟨#[]⟩, .int .i64 0, .int .i64 0, .string ⟨#[]⟩, .string ⟨#[]⟩, .string ⟨#[]⟩, .slice none 0 0]
structure HS (b : World) (l : List (Nat × List Value)) (w : World) : Prop where
  below : Below b.heap.size b w
  cells : ∀ p ∈ l, b.heap.size ≤ p.1 ∧ w.heap[p.1]? = some (.cells p.2.toArray 27 (0, 0))
theorem HS.nil (b : World) : HS b [] b := ⟨.refl _ _, fun _ h => by cases h⟩
theorem HS.call {b w w' : World} {l : List (Nat × List Value)} (h : HS b l w) (hb : Below w.heap.size w w') : HS b l w' :=
  ⟨bthen h.below hb, fun p hp => ⟨(h.cells p hp).1, (hb.block p.1 (Array.getElem?_eq_some_iff.1 (h.cells p hp).2).1).trans (h.cells p hp).2⟩⟩
theorem HS.push {b w : World} {l : List (Nat × List Value)} (h : HS b l w) (cs : List Value) : HS b ((w.heap.size, cs) :: l) (w.alloc (.cells cs.toArray 27)) := by
  have hb : Below w.heap.size w (w.alloc (.cells cs.toArray 27)) := (Below.refl w.heap.size w).alloc (Nat.le_refl _) _
  have h1 := h.call hb
  refine ⟨h1.below, fun p hp => ?_⟩
  rcases List.mem_cons.1 hp with rfl | hp
  · exact ⟨h.below.size, heap_alloc_new w _⟩
  · exact h1.cells p hp
theorem HS.drew {b w : World} {l : List (Nat × List Value)} (h : HS b l w) : HS b l w.drew := ⟨h.below.drew, h.cells⟩
theorem HS.get {b w : World} {l : List (Nat × List Value)} (h : HS b l w) {k : Nat} {cs : List Value} (hm : (k, cs) ∈ l) : w.heap[k]? = some (.cells cs.toArray 27 (0, 0)) := (h.cells _ hm).2
theorem HS.on {P : Prop} {b w w' : World} {l : List (Nat × List Value)} (hb : Below w.heap.size w w') (h : HS b l w) (k : Hid (HS b l w') → P) : P := k (Lib.hid (h.call hb))
theorem HS.box {P : Prop} {b w : World} {l : List (Nat × List Value)} {g : Nat} (h : Hid (HS b l w)) (hm : (g, z7) ∈ l) (k : b.heap.size ≤ g ∧ B7 w g (.string ⟨#[]⟩) (.int .i64 0) (.int .i64 0) (.string ⟨#[]⟩) (.string ⟨#[]⟩) (.string ⟨#[]⟩) (.slice none 0 0) → P) : P := k (h.out.cells _ hm)
theorem bel_alloc {b w : World} (h : Below b.heap.size b w) (o : Obj) : Below b.heap.size b (w.alloc o) := h.alloc h.size o
theorem bel_drew {b w : World} (h : Below b.heap.size b w) : Below b.heap.size b w.drew := h.drew
theorem bel_set {b w : World} {g o : Nat} (hg : b.heap.size ≤ g) (h : Below b.heap.size b w) (u : Value) : Below b.heap.size b (w.setCell ⟨g, o, none⟩ u) := h.setCell (p := ⟨g, o, none⟩) hg _
def oCells (o : ByteArray) (A : Option Addr) (n : Nat) : List Value := [.string o, .int .i64 0, .int .i64 0, .string ⟨#[]⟩, .string ⟨#[]⟩, .string ⟨#[]⟩, .slice A n n]
def nCells (t n : ByteArray) : List Value := [.string ⟨#[99, 111, 108]⟩, .int .i64 0, .int .i64 0, .string ⟨#[]⟩, .string t, .string n, .slice none 0 0]
def iCells (i : Int) : List Value := [.string ⟨#[108, 105, 116]⟩, .int .i64 2, .int .i64 i, .string ⟨#[]⟩, .string ⟨#[]⟩, .string ⟨#[]⟩, .slice none 0 0]
structure Bl6 (w : World) (b1 b2 b3 b4 b5 b6 : Nat) : Prop where
  h1 : w.heap[b1]? = some (.cells (iCells 1 ++ nCells ⟨#[]⟩ ⟨#[98]⟩).toArray 27 (0, 0))
  h2 : w.heap[b2]? = some (.cells (nCells ⟨#[]⟩ ⟨#[97]⟩ ++ oCells ⟨#[42]⟩ (some ⟨b1, 0, none⟩) 2).toArray 27 (0, 0))
  h3 : w.heap[b3]? = some (.cells (oCells ⟨#[43]⟩ (some ⟨b2, 0, none⟩) 2 ++ iCells 3).toArray 27 (0, 0))
  h4 : w.heap[b4]? = some (.cells (nCells ⟨#[116]⟩ ⟨#[120]⟩).toArray 27 (0, 0))
  h5 : w.heap[b5]? = some (.cells (oCells ⟨#[105, 115, 110, 117, 108, 108]⟩ (some ⟨b4, 0, none⟩) 1).toArray 27 (0, 0))
  h6 : w.heap[b6]? = some (.cells (oCells ⟨#[60]⟩ (some ⟨b3, 0, none⟩) 2 ++ oCells ⟨#[110, 111, 116]⟩ (some ⟨b5, 0, none⟩) 1).toArray 27 (0, 0))
structure FinX (b w : World) (g : Nat) : Prop where
  below : Below b.heap.size b w
  le : b.heap.size ≤ g
  all : ∃ b1 b2 b3 b4 b5 b6, Bl6 w b1 b2 b3 b4 b5 b6 ∧ B7 w g (.string ⟨#[111, 114]⟩) (.int .i64 0) (.int .i64 0) (.string ⟨#[]⟩) (.string ⟨#[]⟩) (.string ⟨#[]⟩) (.slice (some ⟨b6, 0, none⟩) 2 2)
theorem HS.bl6 {b w : World} {l : List (Nat × List Value)} (h : HS b l w) {b1 b2 b3 b4 b5 b6 : Nat}
    (m1 : (b1, iCells 1 ++ nCells ⟨#[]⟩ ⟨#[98]⟩) ∈ l) (m2 : (b2, nCells ⟨#[]⟩ ⟨#[97]⟩ ++ oCells ⟨#[42]⟩ (some ⟨b1, 0, none⟩) 2) ∈ l) (m3 : (b3, oCells ⟨#[43]⟩ (some ⟨b2, 0, none⟩) 2 ++ iCells 3) ∈ l)
    (m4 : (b4, nCells ⟨#[116]⟩ ⟨#[120]⟩) ∈ l) (m5 : (b5, oCells ⟨#[105, 115, 110, 117, 108, 108]⟩ (some ⟨b4, 0, none⟩) 1) ∈ l) (m6 : (b6, oCells ⟨#[60]⟩ (some ⟨b3, 0, none⟩) 2 ++ oCells ⟨#[110, 111, 116]⟩ (some ⟨b5, 0, none⟩) 1) ∈ l) :
    Bl6 w b1 b2 b3 b4 b5 b6 := ⟨h.get m1, h.get m2, h.get m3, h.get m4, h.get m5, h.get m6⟩
theorem Bl6.same {w w' : World} {b1 b2 b3 b4 b5 b6 : Nat} (h : Bl6 w b1 b2 b3 b4 b5 b6) (hs : ∀ (k : Nat) (c : ByteArray) (t : List Value), w.heap[k]? = some (Obj.cells (.string c :: t).toArray 27 (0, 0)) → c ≠ ⟨#[]⟩ → w'.heap[k]? = w.heap[k]?) : Bl6 w' b1 b2 b3 b4 b5 b6 :=
  ⟨(hs _ _ _ h.h1 (by decide)).trans h.h1, (hs _ _ _ h.h2 (by decide)).trans h.h2, (hs _ _ _ h.h3 (by decide)).trans h.h3, (hs _ _ _ h.h4 (by decide)).trans h.h4, (hs _ _ _ h.h5 (by decide)).trans h.h5, (hs _ _ _ h.h6 (by decide)).trans h.h6⟩
theorem fin_set {b w : World} {g : Nat} {b1 b2 b3 b4 b5 b6 : Nat} (hb : Below b.heap.size b w) (hg : b.heap.size ≤ g) (hz : B7 w g (.string ⟨#[]⟩) (.int .i64 0) (.int .i64 0) (.string ⟨#[]⟩) (.string ⟨#[]⟩) (.string ⟨#[]⟩) (.slice none 0 0)) (h : Bl6 w b1 b2 b3 b4 b5 b6) :
    FinX b (((((((w.setCell ⟨g, 0, none⟩ (.string ⟨#[111, 114]⟩)).setCell ⟨g, 1, none⟩ (.int .i64 0)).setCell ⟨g, 2, none⟩ (.int .i64 0)).setCell ⟨g, 3, none⟩ (.string ⟨#[]⟩)).setCell ⟨g, 4, none⟩ (.string ⟨#[]⟩)).setCell ⟨g, 5, none⟩ (.string ⟨#[]⟩)).setCell ⟨g, 6, none⟩ (.slice (some ⟨b6, 0, none⟩) 2 2)) g := by
  obtain ⟨W, hW, q, -, hk, hB⟩ := stored7 (w := w) (b := g) hz (.string ⟨#[111, 114]⟩) (.int .i64 0) (.int .i64 0) (.string ⟨#[]⟩) (.string ⟨#[]⟩) (.string ⟨#[]⟩) (.slice (some ⟨b6, 0, none⟩) 2 2)
  rw [← hW]
  refine ⟨hb.trans (hB _ hg), hg, b1, b2, b3, b4, b5, b6, h.same fun k _ _ hc hne => hk k fun e => ?_, q⟩
  subst e
  unfold B7 at hz
  rw [hz] at hc
  injection hc with hc
  injection hc with hc
  injection hc with hc
  injection hc with hc
  injection hc with hc
  exact hne hc.symm
theorem fin_new {b w : World} {b1 b2 b3 b4 b5 b6 : Nat} (hb : Below b.heap.size b w) (h : Bl6 w b1 b2 b3 b4 b5 b6) :
    FinX b (w.alloc (.cells #[.string ⟨#[111, 114]⟩, .int .i64 0, .int .i64 0, .string ⟨#[]⟩, .string ⟨#[]⟩, .string ⟨#[]⟩, .slice (some ⟨b6, 0, none⟩) 2 2] 27)) w.heap.size :=
  ⟨bel_alloc hb _, hb.size, b1, b2, b3, b4, b5, b6, h.same fun k _ _ hc _ => ((Below.refl w.heap.size w).alloc (Nat.le_refl _) _).block k (Array.getElem?_eq_some_iff.1 hc).1, B7.made w _ _ _ _ _ _ _⟩
end Go.Proofs.YthohfegnphocbaaGreatDoor
namespace Go.Proofs.YthohfegnphocbaaGreatDoor
open Go.RowKit
def Firm (B : Nat) (w : World) (g : Nat) : Prop := (g < B ∧ g < w.heap.size) ∨ ∃ (cs : Array Value) (t : TypeId) (f : Nat × Nat), w.heap[g]? = some (.cells cs t f) ∧ t ≠ 71 ∧ t ≠ 5
theorem Firm.same {B : Nat} {w w' : World} {g : Nat} (h : Firm B w g) (hb : Below B w w') (hk : BX.Keep w w') : w'.heap[g]? = w.heap[g]? := by
  rcases h with h | ⟨cs, t, f, h1, h2, h3⟩
  · exact hb.block g h.1
  · rw [h1]; exact hk g cs t f h2 h3 h1
theorem Firm.next {B : Nat} {w w' : World} {g : Nat} (h : Firm B w g) (hb : Below B w w') (hk : BX.Keep w w') : Firm B w' g := by
  rcases h with h | ⟨cs, t, f, h1, h2, h3⟩
  · exact .inl ⟨h.1, Nat.lt_of_lt_of_le h.2 hb.size⟩
  · exact .inr ⟨cs, t, f, hk g cs t f h2 h3 h1, h2, h3⟩
theorem keep_below {w w' : World} (hb : Below w.heap.size w w') : BX.Keep w w' := fun k cs t f _ _ h => by
  have hlt : k < w.heap.size := by
    rcases Nat.lt_or_ge k w.heap.size with h' | h'
    · exact h'
    · simp [Array.getElem?_eq_none h'] at h
  rw [hb.block k hlt]; exact h
theorem B7.keep {w w' : World} {b : Nat} {c0 c1 c2 c3 c4 c5 c6 : Value} (h : B7 w b c0 c1 c2 c3 c4 c5 c6) (hk : BX.Keep w w') : B7 w' b c0 c1 c2 c3 c4 c5 c6 := hk b _ _ _ (by decide) (by decide) h
def ExprW (e : E) : Prop := ∀ (B b : Nat) (acc : List UInt8) (x : Value) (w : World), BX.W63 B b acc w → B ≤ w.heap.size → 10 ≤ B → BV.Env w → EAt (fun k => k < B) w e x → acc.length + e.txt.length ≤ 10000000000 →
  Calls Tryz.prog 38 #[.pointer (some ⟨b, 0, none⟩), x] w fun r w' => r = .returned (.tuple #[]) ∧ BX.W63 B b (acc ++ e.txt) w' ∧ Below B w w' ∧ BX.Keep w w'
def LW (B : Nat) (w : World) (l : List E) (A : Option Addr) (c : Nat) : Prop := l.length ≤ c ∧ c ≤ maxLen ∧ (0 < l.length → ∃ g off, A = some ⟨g, off, none⟩ ∧ Firm B w g ∧ ∀ j (hj : j < l.length), ∃ A' c', Cells7 w g (off + j * 7) l[j] A' c' ∧ Sub (fun k => k < B) w l[j] A' c')
theorem LW.of {B : Nat} {w : World} {l : List E} {A : Option Addr} {c : Nat} (h : Sub (fun k => k < B) w (op1 [] l) A c) : LW B w l A c := by
  obtain ⟨h1, h2, h3⟩ := h
  refine ⟨h1, h2, fun h0 => ?_⟩
  obtain ⟨g, off, rfl, hS, hg, hc⟩ := h3 h0
  exact ⟨g, off, rfl, .inl ⟨hS, hg⟩, fun j hj => hc.get j hj⟩
theorem LW.get {B : Nat} {w w' : World} {l : List E} {A : Option Addr} {c : Nat} (h : LW B w l A c) (hb : Below B w w') (hk : BX.Keep w w') {j : Nat} (hj : j < l.length) : ∃ g off A' c', A = some ⟨g, off, none⟩ ∧ Cells7 w' g (off + j * 7) l[j] A' c' ∧ EAt (fun k => k < B) w' l[j] (eVal l[j].op l[j].v l[j].tb l[j].nm (.slice A' l[j].l.length c')) := by
  obtain ⟨g, off, rfl, hf, hc⟩ := h.2.2 (by omega)
  obtain ⟨A', c', h1, h2⟩ := hc j hj
  exact ⟨g, off, A', c', rfl, h1.same (hf.same hb hk), A', c', rfl, h2.keep (fun k hk _ => ⟨hk, hb.block k hk⟩) hb.size⟩
theorem txtL_len (l : List E) : (txtL l).length = l.length := by
  induction l with
  | nil => rfl
  | cons e l ih => simp [txtL, ih]
theorem txtL_get (l : List E) (j : Nat) (hj : j < l.length) : (txtL l)[j]'(by rw [txtL_len]; exact hj) = l[j].txt := by
  induction l generalizing j with
  | nil => simp at hj
  | cons e l ih =>
    cases j with
    | zero => rfl
    | succ j => simp only [txtL, List.getElem_cons_succ]; exact ih j (by simpa using hj)
theorem join_app (xs ys : List (List UInt8)) : ∃ r, joinB (xs ++ ys) = joinB xs ++ r := by
  induction xs with
  | nil => exact ⟨_, rfl⟩
  | cons x xs ih =>
    cases xs with
    | nil =>
      cases ys with
      | nil => exact ⟨[], by simp⟩
      | cons y ys => exact ⟨[44, 32] ++ joinB (y :: ys), rfl⟩
    | cons z xs =>
      obtain ⟨r, hr⟩ := ih
      refine ⟨r, ?_⟩
      show x ++ ([44, 32] ++ joinB (z :: xs ++ ys)) = x ++ ([44, 32] ++ joinB (z :: xs)) ++ r
      rw [hr]
      simp
theorem join_snoc (xs : List (List UInt8)) (y : List UInt8) : joinB (xs ++ [y]) = joinB xs ++ ((if xs = [] then [] else [44, 32]) ++ y) := by
  induction xs with
  | nil => simp [joinB]
  | cons x xs ih =>
    cases xs with
    | nil => simp [joinB]
    | cons z xs =>
      show x ++ ([44, 32] ++ joinB (z :: xs ++ [y])) = x ++ ([44, 32] ++ joinB (z :: xs)) ++ _
      rw [ih]
      simp
def joinK (l : List E) (k : Nat) : List UInt8 := joinB ((txtL l).take k)
theorem joinK_succ {l : List E} {k : Nat} (hk : k < l.length) : joinK l (k + 1) = joinK l k ++ ((if k = 0 then [] else [44, 32]) ++ l[k].txt) := by
  unfold joinK
  rw [List.take_succ_eq_append_getElem (by rw [txtL_len]; exact hk), join_snoc, txtL_get l k hk]
  congr 2
  cases k with
  | zero => simp
  | succ k =>
    rw [if_neg, if_neg (by omega)]
    intro e
    have := congrArg List.length e
    rw [List.length_take, txtL_len, List.length_nil] at this
    omega
theorem joinK_le (l : List E) (k : Nat) : (joinK l k).length ≤ (joinB (txtL l)).length := by
  obtain ⟨r, hr⟩ := join_app ((txtL l).take k) ((txtL l).drop k)
  rw [List.take_append_drop] at hr
  rw [hr]; unfold joinK; simp
theorem joinK_all (l : List E) : joinK l l.length = joinB (txtL l) := by unfold joinK; rw [← txtL_len, List.take_length]
set_option maxRecDepth 100000 in
set_option maxHeartbeats 8000000 in
theorem listW_any (l : List E) (hW : ∀ j (hj : j < l.length), ExprW l[j]) (B b : Nat) (acc : List UInt8) (w : World) (A : Option Addr) (c : Nat) (h : BX.W63 B b acc w) (hB : B ≤ w.heap.size) (h10 : 10 ≤ B) (hE : BV.Env w) (hl : LW B w l A c) (hlen : acc.length + (brkB (joinB (txtL l))).length ≤ 10000000000) :
    Calls Tryz.prog 79 #[.pointer (some ⟨b, 0, none⟩), .slice A l.length c] w fun r w' => r = .returned (.tuple #[]) ∧ BX.W63 B b (acc ++ brkB (joinB (txtL l))) w' ∧ Below B w w' ∧ BX.Keep w w' := by
  have hlm : l.length ≤ 9223372036854775807 := Nat.le_trans hl.1 hl.2.1
  have hbl : (brkB (joinB (txtL l))).length = (joinB (txtL l)).length + 2 := by simp [brkB]
  have H1 := Lib.hid (BX.wByte B b acc 40 40 w rfl h (by omega) hB)
  have HL := Lib.hid hl
  have HI := Lib.hid hW
  have HE := Lib.hid hE
  have HJ := Lib.hid hlen
  obtain ⟨ln, hln⟩ : ∃ ln, ln = l.length := ⟨_, rfl⟩
  rw [← hln] at hlm ⊢
  have HLN := Lib.hid hln
  clear hl hW hE h hln hlen
  go_enter Tryz.func79, Tryz.ntmps79
  go_wp2_with fail
  refine (H1.out).mono ?_
  rintro e w1 ⟨rfl, h1, b1, k1⟩
  have HW1 := Lib.hid h1
  have HB1 := Lib.hid b1
  have HK1 := Lib.hid k1
  clear h1 b1 k1 H1
  go_wp2_with fail
  go_loopw [12] (fun iv wr => ∃ k : Nat, k ≤ ln ∧ iv = .int .i64 k ∧ Hid (BX.W63 B b ((acc ++ [40]) ++ joinK l k) wr) ∧ Hid (Below B w wr) ∧ Hid (BX.Keep w wr)) (fun iv _ => ln - (intOf iv).toNat)
  case atStart => exact ⟨0, Nat.zero_le _, rfl, (by have := HW1.out; simpa [joinK, joinB] using this : BX.W63 B b ((acc ++ [40]) ++ joinK l 0) w1), HB1.out, HK1.out⟩
  case round =>
    obtain ⟨k, hk, rfl, HWr, HBr, HKr⟩ := hrel
    by_cases hlt : k < ln
    · have hkl : k < l.length := by have := HLN.out; omega
      obtain ⟨g, off, A1, c1, rfl, ⟨i0, i1, i2, i3, i4, i5, i6⟩, hAt⟩ := HL.out.get HBr.out HKr.out hkl
      have hkz : (k : Int) < (ln : Int) := by omega
      obtain ⟨W1, W, hW1, hW, p1, p2, hz, hb1, hb2⟩ := made7 wr (.string (str l[k].op)) (.int .i64 l[k].v.k) (.int .i64 l[k].v.i) (.string (str l[k].v.s)) (.string (str l[k].tb)) (.string (str l[k].nm)) (.slice A1 l[k].l.length c1)
      obtain ⟨p10, p11, p12, p13, p14, p15, p16⟩ := p1.cells
      obtain ⟨x10, x11, x12, x13, x14, x15, x16⟩ := p2.cells
      obtain ⟨f10, f11, f12, f13, f14, f15, f16⟩ := p1.free
      have hBr := HBr.out.size
      have HWW := Lib.hid (BX.W63.below HWr.out hb2)
      have HBW := Lib.hid (HBr.out.trans (hb2.mono (by omega)))
      have HKW := Lib.hid (HKr.out.trans (keep_below hb2))
      have hAtW := hAt.later hb2
      have hacc : acc.length + 1 + (joinK l (k + 1)).length ≤ 10000000000 := by have := joinK_le l (k + 1); have := HJ.out; omega
      have hsucc := joinK_succ hkl
      have HX := Lib.hid (HI.out k hkl)
      have HAtW := Lib.hid hAtW
      have HP2 := Lib.hid p2
      have HS := Lib.hid hsucc
      have hEW := HE.out.below HBW.out h10
      have HEW := Lib.hid hEW
      have hWz : B ≤ W.heap.size := by omega
      rw [hsucc] at hacc
      have HW1' := Lib.hid hW1
      have HW' := Lib.hid hW
      unfold eVal at HAtW
      generalize str l[k].op = bo at *
      generalize str l[k].tb = bt at *
      generalize str l[k].nm = bn at *
      generalize str l[k].v.s = bs at *
      generalize l[k].v.k = vk at *
      generalize l[k].v.i = vi at *
      generalize l[k].l.length = l7 at *
      clear hW1 hW hAt hAtW hb1 hb2 hEW p1 p2 HWr HBr HKr
      by_cases h0 : k = 0
      · subst h0
        simp only [if_true, List.nil_append, Nat.zero_add] at hsucc hacc
        simp only [Nat.zero_mul, Nat.add_zero] at i0 i1 i2 i3 i4 i5 i6
        have hkz : (0 : Int) < (ln : Int) := by omega
        have HC := Lib.hid (HX.out B b ((acc ++ [40]) ++ joinK l 0) _ W HWW.out hWz h10 HEW.out HAtW.out (by simp only [List.length_append, List.length_cons, List.length_nil] at hacc ⊢; omega))
        clear HX HI HWW hacc
        go_wp2_with (first | (rw [← HW'.out]) | (rw [← HW1'.out]))
        refine (HC.out).mono ?_
        rintro e w4 ⟨rfl, h4, b4, k4⟩
        rw [List.append_assoc (acc ++ [40]), ← hsucc] at h4
        go_wp2_with fail
        go_roundw
        case measure => simp [intOf]; omega
        case rel => exact ⟨1, by omega, by go_num, h4, HBW.out.trans b4, HKW.out.trans k4⟩
      · have hk0 : (0 : Int) < (k : Int) := by omega
        simp only [h0, if_false] at hsucc hacc
        have HC1 := Lib.hid (BX.wString B b ((acc ++ [40]) ++ joinK l k) ⟨#[44, 32]⟩ W HWW.out (by simp only [List.length_append, List.length_cons, List.length_nil] at hacc ⊢; show _ + 2 ≤ _; omega) hWz)
        clear HWW
        go_wp2_with (first | (rw [← HW'.out]) | (rw [← HW1'.out]))
        refine (HC1.out).mono ?_
        rintro e w3 ⟨rfl, h3, b3, k3⟩
        obtain ⟨y10, y11, y12, y13, y14, y15, y16⟩ := (HP2.out.keep k3).cells
        have hz3 := b3.size
        have hat3 := EAt.keep (S' := fun k => k < B) HAtW.out (fun q hq _ => ⟨hq, b3.block q hq⟩) hz3
        have HC := Lib.hid (HX.out B b _ _ w3 h3 (by omega) h10 (HEW.out.below b3 h10) hat3 (by simp only [List.length_append, List.length_cons, List.length_nil] at hacc ⊢; omega))
        have HB3 := Lib.hid (HBW.out.trans b3)
        have HK3 := Lib.hid (HKW.out.trans k3)
        clear HX HI h3 b3 k3 hat3 HC1 HP2 hacc
        go_wp2_with fail
        refine (HC.out).mono ?_
        rintro e w4 ⟨rfl, h4, b4, k4⟩
        have h5 : BX.W63 B b (acc ++ [40] ++ joinK l (k + 1)) w4 := by
          rw [hsucc]
          simpa only [List.append_assoc] using h4
        go_wp2_with fail
        go_roundw
        case measure => simp [intOf]; omega
        case rel => exact ⟨k + 1, by omega, by go_num, h5, HB3.out.trans b4, HK3.out.trans k4⟩
    · have hke : k = ln := by omega
      have hkz : ¬ (k : Int) < (ln : Int) := by omega
      subst hke
      have hj := HWr.out
      have hall := joinK_all l
      rw [← HLN.out] at hall
      rw [hall] at hj
      have hBr := HBr.out.size
      have H2 := Lib.hid (BX.wByte B b _ 41 41 wr rfl hj (by have := HJ.out; simp only [List.length_append, List.length_cons, List.length_nil]; omega) (by omega))
      clear hj hall HWr HI HL
      go_wp2_with fail
      refine (H2.out).mono ?_
      rintro e w4 ⟨rfl, h4, b4, k4⟩
      have h5 : BX.W63 B b (acc ++ brkB (joinB (txtL l))) w4 := by
        unfold brkB
        simpa only [List.append_assoc, List.cons_append, List.nil_append] using h4
      go_wp2_with fail
      go_end0
      exact ⟨rfl, h5, HBr.out.trans b4, HKr.out.trans k4⟩
end Go.Proofs.YthohfegnphocbaaGreatDoor
namespace Go.Proofs.YthohfegnphocbaaGreatDoor
open Go.RowKit
set_option maxRecDepth 100000 in
set_option maxHeartbeats 8000000 in
theorem alone_any (e : E) (x : Value) (S : Nat → Prop) (w : World) (hx : EAt S w e x) : Calls Tryz.prog 121 #[x] w fun r w' => r = .returned (.bool e.plain) ∧ Below w.heap.size w w' := by
  obtain ⟨o, v, t, n, l⟩ := e
  obtain ⟨A, c, rfl, -⟩ := hx
  simp only [E.op, E.v, E.tb, E.nm, E.l, eVal] at *
  obtain ⟨W1, hW1, q1, z1, r1⟩ := box7 w (.string (str o)) (.int .i64 v.k) (.int .i64 v.i) (.string (str v.s)) (.string (str t)) (.string (str n)) (.slice A l.length c)
  obtain ⟨a0, a1, a2, a3, a4, a5, a6⟩ := q1.cells
  have HB := Lib.hid r1
  have HW1 := Lib.hid hW1
  have e1 : ((str o).toList == [108, 105, 116]) = (o == wLit) := by rw [Lib.toList_data, str_list]; rfl
  have e2 : ((str o).toList == [99, 111, 108]) = (o == wCol) := by rw [Lib.toList_data, str_list]; rfl
  have e3 : ((str o).toList == [99, 97, 108, 108]) = (o == wCall) := by rw [Lib.toList_data, str_list]; rfl
  clear hW1 q1 r1
  by_cases h1 : o = wLit
  · have hp : (E.mk o v t n l).plain = (!(v.k == 2) || !decide (v.i < 0)) := by
      subst h1
      unfold E.plain
      have q1 : (wLit == wCol) = false := by decide
      have q2 : (wLit == wCall) = false := by decide
      have q3 : (wLit == wLit) = true := by decide
      show ((wLit == wCol) || (wLit == wCall) || ((wLit == wLit) && !(v.k == 2 && decide (v.i < 0)))) = _
      rw [q1, q2, q3]
      simp
    rw [hp]
    have f1 : (o == wLit) = true := by simp [h1]
    rw [f1] at e1
    clear hp f1 e2 e3 h1
    generalize str o = bo at *
    generalize str n = bn at *
    generalize str t = bt at *
    generalize str v.s = bs at *
    generalize v.k = vk at *
    generalize v.i = vi at *
    generalize l.length = ln at *
    by_cases hk : vk = 2
    · subst hk
      by_cases hi : vi < 0
      · have hi2 : ¬ 0 ≤ vi := by omega
        go_enter Tryz.func121, Tryz.ntmps121
        go_wp2_with (rw [← HW1.out])
        go_ret
        exact ⟨by simp <;> omega, HB.out⟩
      · have hi2 : 0 ≤ vi := by omega
        go_enter Tryz.func121, Tryz.ntmps121
        go_wp2_with (rw [← HW1.out])
        go_ret
        exact ⟨by simp <;> omega, HB.out⟩
    · have hkf : (vk == 2) = false := by simpa using hk
      have hkf2 : (vk != 2) = true := by simpa using hk
      go_enter Tryz.func121, Tryz.ntmps121
      go_wp2_with (rw [← HW1.out])
      go_ret
      exact ⟨by simp [hkf], HB.out⟩
  · have f1 : (o == wLit) = false := by simpa using h1
    have hp : (E.mk o v t n l).plain = ((o == wCol) || (o == wCall)) := by
      unfold E.plain
      have q3 : ((E.mk o v t n l).op == wLit) = false := by simp only [E.op]; exact f1
      rw [q3]
      simp only [Bool.false_and, Bool.or_false]
      rfl
    rw [f1] at e1
    rw [hp]
    clear hp
    generalize (o == wCol) = p2 at *
    generalize (o == wCall) = p3 at *
    clear f1 h1
    generalize str o = bo at *
    generalize str n = bn at *
    generalize str t = bt at *
    generalize str v.s = bs at *
    generalize v.k = vk at *
    generalize v.i = vi at *
    generalize l.length = ln at *
    cases p2
    · cases p3
      · go_enter Tryz.func121, Tryz.ntmps121
        go_wp2_with (rw [← HW1.out])
        go_ret
        exact ⟨rfl, HB.out⟩
      · go_enter Tryz.func121, Tryz.ntmps121
        go_wp2_with (rw [← HW1.out])
        go_ret
        exact ⟨rfl, HB.out⟩
    · go_enter Tryz.func121, Tryz.ntmps121
      go_wp2_with (rw [← HW1.out])
      go_ret
      exact ⟨rfl, HB.out⟩
def PartW (e : E) : Prop := ∀ (B b : Nat) (acc : List UInt8) (x : Value) (w : World), BX.W63 B b acc w → B ≤ w.heap.size → 10 ≤ B → BV.Env w → EAt (fun k => k < B) w e x → acc.length + e.prt.length ≤ 10000000000 →
  Calls Tryz.prog 80 #[.pointer (some ⟨b, 0, none⟩), x] w fun r w' => r = .returned (.tuple #[]) ∧ BX.W63 B b (acc ++ e.prt) w' ∧ Below B w w' ∧ BX.Keep w w'
set_option maxRecDepth 100000 in
set_option maxHeartbeats 8000000 in
theorem partW_any (e : E) (hW : ExprW e) : PartW e := by
  intro B b acc x w h hB h10 hE hx hlen
  obtain ⟨A, c, rfl, hs⟩ := hx
  obtain ⟨W1, hW1, q1, z1, r1⟩ := box7 w (.string (str e.op)) (.int .i64 e.v.k) (.int .i64 e.v.i) (.string (str e.v.s)) (.string (str e.tb)) (.string (str e.nm)) (.slice A e.l.length c)
  have hat : EAt (fun k => k < B) w e (eVal e.op e.v e.tb e.nm (.slice A e.l.length c)) := ⟨A, c, rfl, hs⟩
  have HAl := Lib.hid (alone_any e _ _ W1 (hat.later r1))
  obtain ⟨a0, a1, a2, a3, a4, a5, a6⟩ := q1.cells
  have HB := Lib.hid r1
  have HW1 := Lib.hid hW1
  have HW := Lib.hid (BX.W63.below h r1)
  have HE := Lib.hid (hE.below (r1.mono hB) h10)
  have HAt := Lib.hid (hat.later r1)
  have HX := Lib.hid hW
  have hprt : e.prt = if e.plain then e.txt else brkB e.txt := rfl
  rw [hprt] at hlen ⊢
  unfold eVal at HAl HAt ⊢
  generalize hp : e.plain = p at *
  clear hW1 r1 h hE hs hat hW hp hprt
  cases p
  · simp only [Bool.false_eq_true, if_false] at hlen ⊢
    go_enter Tryz.func80, Tryz.ntmps80
    go_wp2_with (rw [← HW1.out])
    refine (HAl.out).mono ?_
    rintro r w3 ⟨rfl, b3⟩
    have hz3 := b3.size
    have hq3 := q1.later b3
    obtain ⟨c0, c1, c2, c3, c4, c5, c6⟩ := hq3.cells
    obtain ⟨W4, hW4⟩ : ∃ W4, W4 = w3.alloc (.cells #[.string (str e.op), .int .i64 e.v.k, .int .i64 e.v.i, .string (str e.v.s), .string (str e.tb), .string (str e.nm), .slice A e.l.length c] 27) := ⟨_, rfl⟩
    have r4 : Below w3.heap.size w3 W4 := by rw [hW4]; exact (Below.refl w3.heap.size w3).alloc (Nat.le_refl _) _
    have hb4 : W4.heap[w3.heap.size]? = some (.cells #[.string (str e.op), .int .i64 e.v.k, .int .i64 e.v.i, .string (str e.v.s), .string (str e.tb), .string (str e.nm), .slice A e.l.length c] 27 (0, 0)) := by rw [hW4]; exact heap_alloc_new w3 _
    have hB4 : Below w.heap.size w W4 := bthen (bthen HB.out b3) r4
    have hb14 := bthen b3 r4
    have hlw : LW B W4 [e] (some ⟨w3.heap.size, 0, none⟩) 1 := by
      refine ⟨by simp, by unfold maxLen; omega, fun _ => ⟨_, 0, rfl, .inr ⟨_, _, _, hb4, by decide, by decide⟩, fun j hj => ?_⟩⟩
      have hj0 : j = 0 := by simpa using hj
      subst hj0
      refine ⟨A, c, ?_, ?_⟩
      · simp only [Nat.zero_mul, Nat.add_zero, List.getElem_cons_zero]
        exact B7.cells hb4
      · obtain ⟨A', c', h1, h2⟩ := HAt.out
        have : A = A' ∧ c = c' := by simpa [eVal] using h1
        obtain ⟨rfl, rfl⟩ := this
        exact (h2.keep (fun k hk hlt => ⟨hk, hb14.block k hlt⟩) hb14.size)
    have hlj : joinB (txtL [e]) = e.txt := by simp [txtL, joinB]
    have HL := Lib.hid (listW_any [e] (fun j hj => by have hj0 : j = 0 := by simpa using hj
                                                      subst hj0; exact HX.out) B b acc W4 _ _ (BX.W63.below HW.out hb14) (by have := hB4.size; omega) h10 (HE.out.below (hb14.mono (by omega)) h10) hlw (by rw [hlj]; exact hlen))
    rw [hlj] at HL
    have HBk := Lib.hid hB4
    have HW4 := Lib.hid hW4
    clear b3 hq3 r4 hb4 hB4 hb14 hlw hlj hW4 HW HE HX HAt hlen
    simp only [List.length_singleton] at HL
    go_wp2_with (rw [← HW4.out])
    refine (HL.out).mono ?_
    rintro r w5 ⟨rfl, h5, b5, k5⟩
    go_wp2_with fail
    go_end0
    exact ⟨rfl, h5, (HBk.out.mono hB).trans b5, (keep_below HBk.out).trans k5⟩
  · simp only [if_true] at hlen ⊢
    go_enter Tryz.func80, Tryz.ntmps80
    go_wp2_with (rw [← HW1.out])
    refine (HAl.out).mono ?_
    rintro r w3 ⟨rfl, b3⟩
    have hz3 := b3.size
    obtain ⟨c0, c1, c2, c3, c4, c5, c6⟩ := (q1.later b3).cells
    have HC := Lib.hid (HX.out B b acc _ w3 (BX.W63.below HW.out b3) (by omega) h10 (HE.out.below (b3.mono (by omega)) h10) (HAt.out.later b3) hlen)
    have HBk := Lib.hid (bthen HB.out b3)
    clear b3 HW HE HX HAt hlen
    go_wp2_with fail
    refine (HC.out).mono ?_
    rintro r w5 ⟨rfl, h5, b5, k5⟩
    go_wp2_with fail
    go_end0
    exact ⟨rfl, h5, (HBk.out.mono hB).trans b5, (keep_below HBk.out).trans k5⟩
end Go.Proofs.YthohfegnphocbaaGreatDoor
namespace Go.Proofs.YthohfegnphocbaaGreatDoor
open Go.RowKit
def pre (l : List E) (ms : List ByteArray) : Nat → List UInt8
  | 0 => []
  | k + 1 => pre l ms k ++ ((if k = 0 then [] else (ms[k - 1]?.getD ⟨#[]⟩).data.toList) ++ ((l[k]?.map E.prt).getD []))
theorem pre_succ {l : List E} {ms : List ByteArray} {k : Nat} (hk : k < l.length) (h0 : k ≠ 0) (hm : k - 1 < ms.length) : pre l ms (k + 1) = pre l ms k ++ (ms[k - 1].data.toList ++ l[k].prt) := by
  rw [pre, if_neg h0, List.getElem?_eq_getElem hm, List.getElem?_eq_getElem hk]
  rfl
theorem pre_one {l : List E} {ms : List ByteArray} (hk : 0 < l.length) : pre l ms 1 = l[0].prt := by
  rw [pre, if_pos rfl, List.getElem?_eq_getElem hk]
  simp [pre]
theorem pre_le (l : List E) (ms : List ByteArray) (k n : Nat) (h : k ≤ n) : (pre l ms k).length ≤ (pre l ms n).length := by
  induction n with
  | zero => rw [show k = 0 by omega]; exact Nat.le_refl _
  | succ n ih =>
    rcases Nat.lt_or_ge n k with hk | hk
    · rw [show k = n + 1 by omega]; exact Nat.le_refl _
    · exact Nat.le_trans (ih hk) (by rw [pre]; simp)
set_option maxRecDepth 100000 in
set_option maxHeartbeats 8000000 in
theorem partsW_any (l : List E) (hW : ∀ j (hj : j < l.length), PartW l[j]) (ms : List ByteArray) (hml : l.length ≤ ms.length + 1) (hm9 : ms.length ≤ 1000) (B b : Nat) (acc : List UInt8) (w : World) (A : Option Addr) (c : Nat) (g9 : Nat) (hM : MAt w g9 ms) (hF : Firm B w g9) (h : BX.W63 B b acc w) (hB : B ≤ w.heap.size) (h10 : 10 ≤ B) (hE : BV.Env w) (hl : LW B w l A c) (hlen : acc.length + (pre l ms l.length).length ≤ 10000000000) :
    Calls Tryz.prog 81 #[.pointer (some ⟨b, 0, none⟩), .slice A l.length c, .slice (some ⟨g9, 0, none⟩) ms.length ms.length] w fun r w' => r = .returned (.tuple #[]) ∧ BX.W63 B b (acc ++ pre l ms l.length) w' ∧ Below B w w' ∧ BX.Keep w w' := by
  have hlm : l.length ≤ 9223372036854775807 := Nat.le_trans hl.1 hl.2.1
  have HL := Lib.hid hl
  have HI := Lib.hid hW
  have HE := Lib.hid hE
  have HJ := Lib.hid hlen
  have HM := Lib.hid hM
  have HF := Lib.hid hF
  have H0 := Lib.hid h
  obtain ⟨ln, hln⟩ : ∃ ln, ln = l.length := ⟨_, rfl⟩
  rw [← hln] at hlm hml ⊢
  have HLN := Lib.hid hln
  obtain ⟨mn, hmn⟩ : ∃ mn, mn = ms.length := ⟨_, rfl⟩
  rw [← hmn] at hml hm9 ⊢
  have HMN := Lib.hid hmn
  clear hl hW hE h hln hlen hM hF hmn
  go_enter Tryz.func81, Tryz.ntmps81
  go_wp2_with fail
  go_loopw [10] (fun iv wr => ∃ k : Nat, k ≤ ln ∧ iv = .int .i64 k ∧ Hid (BX.W63 B b (acc ++ pre l ms k) wr) ∧ Hid (Below B w wr) ∧ Hid (BX.Keep w wr)) (fun iv _ => ln - (intOf iv).toNat)
  case atStart => exact ⟨0, Nat.zero_le _, rfl, (by have := H0.out; simpa [pre] using this : BX.W63 B b (acc ++ pre l ms 0) w), Below.refl _ _, BX.Keep.refl _⟩
  case round =>
    obtain ⟨k, hk, rfl, HWr, HBr, HKr⟩ := hrel
    by_cases hlt : k < ln
    · have hkl : k < l.length := by have := HLN.out; omega
      obtain ⟨g, off, A1, c1, rfl, ⟨i0, i1, i2, i3, i4, i5, i6⟩, hAt⟩ := HL.out.get HBr.out HKr.out hkl
      have hkz : (k : Int) < (ln : Int) := by omega
      obtain ⟨W1, W, hW1, hW, p1, p2, hz, hb1, hb2⟩ := made7 wr (.string (str l[k].op)) (.int .i64 l[k].v.k) (.int .i64 l[k].v.i) (.string (str l[k].v.s)) (.string (str l[k].tb)) (.string (str l[k].nm)) (.slice A1 l[k].l.length c1)
      obtain ⟨p10, p11, p12, p13, p14, p15, p16⟩ := p1.cells
      obtain ⟨x10, x11, x12, x13, x14, x15, x16⟩ := p2.cells
      obtain ⟨f10, f11, f12, f13, f14, f15, f16⟩ := p1.free
      have hBr := HBr.out.size
      have HWW := Lib.hid (BX.W63.below HWr.out hb2)
      have HBW := Lib.hid (HBr.out.trans (hb2.mono (by omega)))
      have HKW := Lib.hid (HKr.out.trans (keep_below hb2))
      have hacc : acc.length + (pre l ms (k + 1)).length ≤ 10000000000 := by have := pre_le l ms (k + 1) l.length hkl; have := HJ.out; omega
      have HX := Lib.hid (HI.out k hkl)
      have HAtW := Lib.hid (hAt.later hb2)
      have HP2 := Lib.hid p2
      have HEW := Lib.hid (HE.out.below HBW.out h10)
      have hWz : B ≤ W.heap.size := by omega
      have HW1' := Lib.hid hW1
      have HW' := Lib.hid hW
      have hfs := HF.out.same HBW.out HKW.out
      have hmc : ∀ j (hj : j < ms.length), W.cell? ⟨g9, j, none⟩ = some (.string ms[j]) := fun j hj => (World.cell?_of_block (w := w) (a := ⟨g9, j, none⟩) hfs).trans (HM.out.2 j hj)
      unfold eVal at HAtW
      generalize str l[k].op = bo at *
      generalize str l[k].tb = bt at *
      generalize str l[k].nm = bn at *
      generalize str l[k].v.s = bs at *
      generalize l[k].v.k = vk at *
      generalize l[k].v.i = vi at *
      generalize l[k].l.length = l7 at *
      clear hW1 hW hAt hb1 hb2 p1 p2 HWr HBr HKr hfs
      by_cases h0 : k = 0
      · subst h0
        have hone := pre_one (ms := ms) hkl
        simp only [Nat.zero_add] at hacc
        simp only [Nat.zero_mul, Nat.add_zero] at i0 i1 i2 i3 i4 i5 i6
        have hkz : (0 : Int) < (ln : Int) := by omega
        have HC := Lib.hid (HX.out B b (acc ++ pre l ms 0) _ W HWW.out hWz h10 HEW.out HAtW.out (by rw [hone] at hacc; simp only [pre, List.append_nil]; exact hacc))
        clear HX HI HWW hacc hmc
        go_wp2_with (first | (rw [← HW'.out]) | (rw [← HW1'.out]))
        refine (HC.out).mono ?_
        rintro e w4 ⟨rfl, h4, b4, k4⟩
        have h5 : BX.W63 B b (acc ++ pre l ms 1) w4 := by
          rw [hone]
          simpa only [pre, List.append_nil] using h4
        go_wp2_with fail
        go_roundw
        case measure => simp [intOf]; omega
        case rel => exact ⟨1, by omega, by go_num, h5, HBW.out.trans b4, HKW.out.trans k4⟩
      · have hkm : k - 1 < ms.length := by have := HMN.out; omega
        have hsucc := pre_succ hkl h0 hkm
        obtain ⟨j, rfl⟩ : ∃ j, k = j + 1 := ⟨k - 1, by omega⟩
        have mc := hmc j (by omega)
        simp only [Nat.add_sub_cancel] at hsucc
        have hjm : (j : Int) < (mn : Int) := by have := HMN.out; omega
        rw [hsucc] at hacc
        have HC1 := Lib.hid (BX.wString B b (acc ++ pre l ms (j + 1)) ms[j] W.drew (BX.W63.drew HWW.out) (by
          have : ms[j].size = ms[j].data.toList.length := by show ms[j].data.size = _; exact Array.length_toList.symm
          simp only [List.length_append] at hacc ⊢; omega) hWz)
        clear HWW hmc
        generalize hmj : ms[j] = mj at *
        go_wp2_with (first | (rw [← HW'.out]) | (rw [← HW1'.out]))
        have hw1 : IntKind.i64.wrap (((j + 1 : Nat) : Int) - 1) = (j : Int) := by rw [IntKind.wrap_i64]; omega
        have hw2 : IntKind.i64.wrap ((j : Int) + 1 - 1) = (j : Int) := by rw [IntKind.wrap_i64]; omega
        have hw3 : IntKind.i64.wrap (j : Int) = (j : Int) := by rw [IntKind.wrap_i64]; omega
        have hj0 : (0 : Int) ≤ (j : Int) := by omega
        go_region_with (go_at_call 76; refine (HC1.out).mono ?_; rintro e w3 ⟨rfl, h3, b3, k3⟩)
        all_goals
          obtain ⟨y10, y11, y12, y13, y14, y15, y16⟩ := (B7.keep (HP2.out.later (Below.refl W.heap.size W).drew) k3).cells
          have hz3 : W.heap.size ≤ w3.heap.size := b3.size
          have hb3 : Below B W w3 := ((Below.refl B W).drew).trans b3
          have hk3 : BX.Keep W w3 := (keep_below (Below.refl W.heap.size W).drew).trans k3
          have hat3 := EAt.keep (S' := fun k => k < B) HAtW.out (fun q hq _ => ⟨hq, hb3.block q hq⟩) hz3
          have HC := Lib.hid (HX.out B b _ _ w3 h3 (by omega) h10 (HEW.out.below hb3 h10) hat3 (by simp only [List.length_append] at hacc ⊢; omega))
          have HB3 := Lib.hid (HBW.out.trans hb3)
          have HK3 := Lib.hid (HKW.out.trans hk3)
          clear h3 b3 k3 hat3 hb3 hk3
          go_wp2_with fail
          refine (HC.out).mono ?_
          rintro e w4 ⟨rfl, h4, b4, k4⟩
          have h5 : BX.W63 B b (acc ++ pre l ms (j + 1 + 1)) w4 := by
            rw [hsucc]
            simpa only [List.append_assoc] using h4
          go_wp2_with fail
          go_roundw
          case measure => simp [intOf]; omega
          case rel => exact ⟨j + 1 + 1, by omega, by go_num, h5, HB3.out.trans b4, HK3.out.trans k4⟩
    · have hke : k = ln := by omega
      have hkz : ¬ (k : Int) < (ln : Int) := by omega
      subst hke
      clear HI HL
      go_wp2_with fail
      go_end0
      exact ⟨rfl, HWr.out, HBr.out, HKr.out⟩
end Go.Proofs.YthohfegnphocbaaGreatDoor
namespace Go.Proofs.YthohfegnphocbaaGreatDoor
open Go.RowKit
theorem star_w : ExprW star := by
  intro B b acc x w h hB h10 hE hx hlen
  obtain ⟨A, c, rfl, hs⟩ := hx
  simp only [star, op1, E.op, E.v, E.tb, E.nm, E.l, eVal] at *
  obtain ⟨W1, hW1, q1, z1, r1⟩ := box7 w (.string (str wStar)) (.int .i64 v0.k) (.int .i64 v0.i) (.string (str v0.s)) (.string (str [])) (.string (str [])) (.slice A ([] : List E).length c)
  obtain ⟨a0, a1, a2, a3, a4, a5, a6⟩ := q1.cells
  have htx : E.txt (.mk wStar v0 [] [] []) = [42] := by rfl
  rw [htx] at hlen ⊢
  have HC := Lib.hid (BX.wByte B b acc 42 42 W1 rfl (BX.W63.below h r1) (by simp at hlen; omega) (by omega))
  have HB := Lib.hid r1
  have HW1 := Lib.hid hW1
  have hso : str wStar = ⟨#[115, 116, 97, 114]⟩ := rfl
  rw [hso] at a0 HW1
  rw [hso]
  clear hW1 q1 r1 h hE hs
  simp only [List.length_nil] at *
  go_enter Tryz.func38, Tryz.ntmps38
  go_wp2_with (rw [← HW1.out])
  refine (HC.out).mono ?_
  rintro r w5 ⟨rfl, h5, b5, k5⟩
  go_wp2_with fail
  go_end0
  exact ⟨rfl, h5, (HB.out.mono hB).trans b5, (keep_below HB.out).trans k5⟩
theorem w_open {B b : Nat} {acc : List UInt8} {w : World} {o : List UInt8} {v : Vl} {t n : List UInt8} {l : List E} {A : Option Addr} {c : Nat} (h : BX.W63 B b acc w) (hB : B ≤ w.heap.size) (h10 : 10 ≤ B) (hE : BV.Env w) (hs : Sub (fun k => k < B) w (.mk o v t n l) A c) :
    ∃ W1 : World, W1 = w.alloc (.cells #[.string (str o), .int .i64 v.k, .int .i64 v.i, .string (str v.s), .string (str t), .string (str n), .slice A l.length c] 27) ∧ B7 W1 w.heap.size (.string (str o)) (.int .i64 v.k) (.int .i64 v.i) (.string (str v.s)) (.string (str t)) (.string (str n)) (.slice A l.length c) ∧
      Below w.heap.size w W1 ∧ BX.W63 B b acc W1 ∧ B ≤ W1.heap.size ∧ BV.Env W1 ∧ LW B W1 l A c := by
  obtain ⟨W1, hW1, q1, z1, r1⟩ := box7 w (.string (str o)) (.int .i64 v.k) (.int .i64 v.i) (.string (str v.s)) (.string (str t)) (.string (str n)) (.slice A l.length c)
  refine ⟨W1, hW1, q1, r1, BX.W63.below h r1, by omega, hE.below (r1.mono hB) h10, LW.of ?_⟩
  have hs1 : Sub (fun k => k < B) w (op1 [] l) A c := by simp only [op1, Sub] at *; exact hs
  exact sub_later hs1 r1
theorem LW.next {B : Nat} {w w' : World} {l : List E} {A : Option Addr} {c : Nat} (h : LW B w l A c) (hb : Below B w w') (hk : BX.Keep w w') : LW B w' l A c := by
  refine ⟨h.1, h.2.1, fun h0 => ?_⟩
  obtain ⟨g, off, rfl, hf, hc⟩ := h.2.2 h0
  refine ⟨g, off, rfl, hf.next hb hk, fun j hj => ?_⟩
  obtain ⟨A', c', h1, h2⟩ := hc j hj
  exact ⟨A', c', h1.same (hf.same hb hk), h2.keep (fun k hk _ => ⟨hk, hb.block k hk⟩) hb.size⟩
theorem LW.tail {B : Nat} {w : World} {x : E} {l : List E} {g off : Nat} {c : Nat} (h : LW B w (x :: l) (some ⟨g, off, none⟩) c) : LW B w l (some ⟨g, off + 7, none⟩) (c - 1) := by
  obtain ⟨h1, h2, h3⟩ := h
  simp only [List.length_cons] at h1 h3
  refine ⟨by omega, by omega, fun h0 => ?_⟩
  obtain ⟨g', off', e, hf, hc⟩ := h3 (by omega)
  obtain ⟨rfl, rfl⟩ : g = g' ∧ off = off' := by simpa using e
  refine ⟨g, off + 7, rfl, hf, fun j hj => ?_⟩
  obtain ⟨A', c', q1, q2⟩ := hc (j + 1) (by omega)
  rw [show off + (j + 1) * 7 = off + 7 + j * 7 by omega] at q1
  exact ⟨A', c', by simpa using q1, by simpa using q2⟩
theorem LW.first {B : Nat} {w : World} {x : E} {l : List E} {A : Option Addr} {c : Nat} (h : LW B w (x :: l) A c) : ∃ g off A' c', A = some ⟨g, off, none⟩ ∧ Cells7 w g off x A' c' ∧ EAt (fun k => k < B) w x (eVal x.op x.v x.tb x.nm (.slice A' x.l.length c')) := by
  obtain ⟨g, off, A', c', e, h1, h2⟩ := h.get (Below.refl B w) (BX.Keep.refl w) (j := 0) (by simp)
  rw [Nat.zero_mul, Nat.add_zero] at h1
  exact ⟨g, off, A', c', e, h1, h2⟩
set_option maxRecDepth 100000 in
set_option maxHeartbeats 8000000 in
theorem w_not (y : E) (hy : ExprW y) : ExprW (op1 wNot [y]) := by
  intro B b acc x w h hB h10 hE hx hlen
  obtain ⟨A, c, rfl, hs⟩ := hx
  obtain ⟨W1, hW1, q1, r1, hw1, hB1, hE1, hl1⟩ := w_open (o := wNot) (v := v0) (t := []) (n := []) (l := [y]) h hB h10 hE hs
  obtain ⟨a0, a1, a2, a3, a4, a5, a6⟩ := q1.cells
  have HB := Lib.hid r1
  have HW1 := Lib.hid hW1
  have HQ := Lib.hid q1
  have HL1 := Lib.hid hl1
  have HE1 := Lib.hid hE1
  have hso : str wNot = ⟨#[110, 111, 116]⟩ := rfl
  have htx : (op1 wNot [y]).txt = [78, 79, 84, 32] ++ y.prt := by rfl
  rw [htx] at hlen ⊢
  have HP := Lib.hid (partW_any y hy)
  simp only [op1, E.op, E.v, E.tb, E.nm, E.l, eVal, hso] at *
  have HLen := Lib.hid hlen
  clear hW1 q1 r1 h hE hs hl1 hE1 hy hso htx hlen
  simp only [List.length_singleton] at *
  have HC1 := Lib.hid (BX.wString B b acc ⟨#[78, 79, 84, 32]⟩ W1 hw1 (by have := HLen.out; simp only [List.length_append, List.length_cons, List.length_nil] at this; show _ + 4 ≤ _; omega) hB1)
  go_enter Tryz.func38, Tryz.ntmps38
  go_wp2_with (rw [← HW1.out])
  refine (HC1.out).mono ?_
  rintro r w3 ⟨rfl, h3, b3, k3⟩
  obtain ⟨g, off, A', c', rfl, ⟨i0, i1, i2, i3, i4, i5, i6⟩, hat⟩ := (HL1.out.next b3 k3).first
  have q3 := HQ.out.keep k3
  obtain ⟨d0, d1, d2, d3, d4, d5, d6⟩ := q3.cells
  have hz3 := b3.size
  have HC2 := Lib.hid (HP.out B b _ _ w3 h3 (by omega) h10 (HE1.out.below b3 h10) hat (by have := HLen.out; simp only [List.length_append, List.length_cons, List.length_nil] at this ⊢; show _ + 4 + _ ≤ _; omega))
  have HB3 := Lib.hid b3
  have HK3 := Lib.hid k3
  unfold eVal at HC2
  generalize str y.op = yo at *
  generalize str y.tb = yt at *
  generalize str y.nm = yn at *
  generalize str y.v.s = ys at *
  generalize y.v.k = yk at *
  generalize y.v.i = yi at *
  generalize y.l.length = yl at *
  clear h3 b3 k3 hat q3 HP HL1 HC1 hw1
  go_wp2_with fail
  refine (HC2.out).mono ?_
  rintro r w5 ⟨rfl, h5, b5, k5⟩
  have h6 : BX.W63 B b (acc ++ ([78, 79, 84, 32] ++ y.prt)) w5 := by
    simpa only [List.append_assoc] using h5
  go_wp2_with fail
  go_end0
  exact ⟨rfl, h6, ((HB.out.mono hB).trans HB3.out).trans b5, ((keep_below HB.out).trans HK3.out).trans k5⟩
set_option maxRecDepth 100000 in
set_option maxHeartbeats 8000000 in
theorem w_isn (y : E) (hy : ExprW y) : ExprW (op1 wIsnull [y]) := by
  intro B b acc x w h hB h10 hE hx hlen
  obtain ⟨A, c, rfl, hs⟩ := hx
  obtain ⟨W1, hW1, q1, r1, hw1, hB1, hE1, hl1⟩ := w_open (o := wIsnull) (v := v0) (t := []) (n := []) (l := [y]) h hB h10 hE hs
  obtain ⟨a0, a1, a2, a3, a4, a5, a6⟩ := q1.cells
  have HB := Lib.hid r1
  have HW1 := Lib.hid hW1
  have HQ := Lib.hid q1
  have HL1 := Lib.hid hl1
  have HE1 := Lib.hid hE1
  have hso : str wIsnull = ⟨#[105, 115, 110, 117, 108, 108]⟩ := rfl
  have htx : (op1 wIsnull [y]).txt = y.prt ++ bIs := by rfl
  rw [htx] at hlen ⊢
  have HP := Lib.hid (partW_any y hy)
  simp only [op1, E.op, E.v, E.tb, E.nm, E.l, eVal, hso] at *
  have HLen := Lib.hid hlen
  clear hW1 q1 r1 h hE hs hl1 hE1 hy hso htx hlen
  simp only [List.length_singleton] at *
  obtain ⟨g, off, A', c', rfl, ⟨i0, i1, i2, i3, i4, i5, i6⟩, hat⟩ := HL1.out.first
  have HC1 := Lib.hid (HP.out B b acc _ W1 hw1 hB1 h10 HE1.out hat (by have := HLen.out; simp only [List.length_append] at this; omega))
  unfold eVal at HC1
  generalize str y.op = yo at *
  generalize str y.tb = yt at *
  generalize str y.nm = yn at *
  generalize str y.v.s = ys at *
  generalize y.v.k = yk at *
  generalize y.v.i = yi at *
  generalize y.l.length = yl at *
  clear hat HP HL1 hw1
  go_enter Tryz.func38, Tryz.ntmps38
  go_wp2_with (rw [← HW1.out])
  refine (HC1.out).mono ?_
  rintro r w3 ⟨rfl, h3, b3, k3⟩
  have hz3 := b3.size
  have HC2 := Lib.hid (BX.wString B b _ ⟨#[32, 73, 83, 32, 78, 85, 76, 76]⟩ w3 h3 (by have := HLen.out; simp only [List.length_append] at this ⊢; show _ + _ + 8 ≤ _; have e : (bIs).length = 8 := rfl; omega) (by omega))
  have HB3 := Lib.hid b3
  have HK3 := Lib.hid k3
  clear h3 b3 k3
  go_wp2_with fail
  refine (HC2.out).mono ?_
  rintro r w5 ⟨rfl, h5, b5, k5⟩
  have h6 : BX.W63 B b (acc ++ (y.prt ++ bIs)) w5 := by
    rw [← List.append_assoc]
    exact h5
  go_wp2_with fail
  go_end0
  exact ⟨rfl, h6, ((HB.out.mono hB).trans HB3.out).trans b5, ((keep_below HB.out).trans HK3.out).trans k5⟩
set_option maxRecDepth 100000 in
set_option maxHeartbeats 8000000 in
theorem w_nn (y : E) (hy : ExprW y) : ExprW (op1 wNotnull [y]) := by
  intro B b acc x w h hB h10 hE hx hlen
  obtain ⟨A, c, rfl, hs⟩ := hx
  obtain ⟨W1, hW1, q1, r1, hw1, hB1, hE1, hl1⟩ := w_open (o := wNotnull) (v := v0) (t := []) (n := []) (l := [y]) h hB h10 hE hs
  obtain ⟨a0, a1, a2, a3, a4, a5, a6⟩ := q1.cells
  have HB := Lib.hid r1
  have HW1 := Lib.hid hW1
  have HQ := Lib.hid q1
  have HL1 := Lib.hid hl1
  have HE1 := Lib.hid hE1
  have hso : str wNotnull = ⟨#[110, 111, 116, 110, 117, 108, 108]⟩ := rfl
  have htx : (op1 wNotnull [y]).txt = y.prt ++ bIsNot := by rfl
  rw [htx] at hlen ⊢
  have HP := Lib.hid (partW_any y hy)
  simp only [op1, E.op, E.v, E.tb, E.nm, E.l, eVal, hso] at *
  have HLen := Lib.hid hlen
  clear hW1 q1 r1 h hE hs hl1 hE1 hy hso htx hlen
  simp only [List.length_singleton] at *
  obtain ⟨g, off, A', c', rfl, ⟨i0, i1, i2, i3, i4, i5, i6⟩, hat⟩ := HL1.out.first
  have HC1 := Lib.hid (HP.out B b acc _ W1 hw1 hB1 h10 HE1.out hat (by have := HLen.out; simp only [List.length_append] at this; omega))
  unfold eVal at HC1
  generalize str y.op = yo at *
  generalize str y.tb = yt at *
  generalize str y.nm = yn at *
  generalize str y.v.s = ys at *
  generalize y.v.k = yk at *
  generalize y.v.i = yi at *
  generalize y.l.length = yl at *
  clear hat HP HL1 hw1
  go_enter Tryz.func38, Tryz.ntmps38
  go_wp2_with (rw [← HW1.out])
  refine (HC1.out).mono ?_
  rintro r w3 ⟨rfl, h3, b3, k3⟩
  have hz3 := b3.size
  have HC2 := Lib.hid (BX.wString B b _ ⟨#[32, 73, 83, 32, 78, 79, 84, 32, 78, 85, 76, 76]⟩ w3 h3 (by have := HLen.out; simp only [List.length_append] at this ⊢; show _ + _ + 12 ≤ _; have e : (bIsNot).length = 12 := rfl; omega) (by omega))
  have HB3 := Lib.hid b3
  have HK3 := Lib.hid k3
  clear h3 b3 k3
  go_wp2_with fail
  refine (HC2.out).mono ?_
  rintro r w5 ⟨rfl, h5, b5, k5⟩
  have h6 : BX.W63 B b (acc ++ (y.prt ++ bIsNot)) w5 := by
    rw [← List.append_assoc]
    exact h5
  go_wp2_with fail
  go_end0
  exact ⟨rfl, h6, ((HB.out.mono hB).trans HB3.out).trans b5, ((keep_below HB.out).trans HK3.out).trans k5⟩
set_option maxRecDepth 100000 in
set_option maxHeartbeats 8000000 in
theorem w_neg (y : E) (hy : ExprW y) : ExprW (op1 wNeg [y]) := by
  intro B b acc x w h hB h10 hE hx hlen
  obtain ⟨A, c, rfl, hs⟩ := hx
  obtain ⟨W1, hW1, q1, r1, hw1, hB1, hE1, hl1⟩ := w_open (o := wNeg) (v := v0) (t := []) (n := []) (l := [y]) h hB h10 hE hs
  obtain ⟨a0, a1, a2, a3, a4, a5, a6⟩ := q1.cells
  have HB := Lib.hid r1
  have HW1 := Lib.hid hW1
  have HQ := Lib.hid q1
  have HL1 := Lib.hid hl1
  have HE1 := Lib.hid hE1
  have hso : str wNeg = ⟨#[110, 101, 103]⟩ := rfl
  have htx : (op1 wNeg [y]).txt = 45 :: brkB y.txt := by rfl
  rw [htx] at hlen ⊢
  have hj : joinB (txtL [y]) = y.txt := by simp [txtL, joinB]
  have HP := Lib.hid (fun acc w h hB hE hl hlen => listW_any [y] (fun j hj => by
    have hj0 : j = 0 := by simpa using hj
    subst hj0; exact hy) B b acc w A c h hB h10 hE hl hlen)
  rw [hj] at HP
  simp only [op1, E.op, E.v, E.tb, E.nm, E.l, eVal, hso, List.length_singleton] at *
  have HLen := Lib.hid hlen
  have HC1 := Lib.hid (BX.wByte B b acc 45 45 W1 rfl hw1 (by simp only [List.length_cons] at hlen; omega) hB1)
  clear hW1 q1 r1 h hE hs hl1 hE1 hy hso htx hlen hw1 hj
  go_enter Tryz.func38, Tryz.ntmps38
  go_wp2_with (rw [← HW1.out])
  refine (HC1.out).mono ?_
  rintro r w3 ⟨rfl, h3, b3, k3⟩
  have q3 := HQ.out.keep k3
  obtain ⟨d0, d1, d2, d3, d4, d5, d6⟩ := q3.cells
  have hz3 := b3.size
  have HC2 := Lib.hid (HP.out _ w3 h3 (by omega) (HE1.out.below b3 h10) (HL1.out.next b3 k3) (by have := HLen.out; simp only [List.length_append, List.length_cons, List.length_nil] at this ⊢; omega))
  have HB3 := Lib.hid b3
  have HK3 := Lib.hid k3
  clear h3 b3 k3 q3 HP HL1 HC1
  go_wp2_with fail
  refine (HC2.out).mono ?_
  rintro r w5 ⟨rfl, h5, b5, k5⟩
  have h6 : BX.W63 B b (acc ++ 45 :: brkB y.txt) w5 := by
    simpa only [List.append_assoc, List.cons_append, List.nil_append] using h5
  go_wp2_with fail
  go_end0
  exact ⟨rfl, h6, ((HB.out.mono hB).trans HB3.out).trans b5, ((keep_below HB.out).trans HK3.out).trans k5⟩
set_option maxRecDepth 100000 in
set_option maxHeartbeats 8000000 in
theorem w_call (n : List UInt8) (l : List E) (hy : ∀ j (hj : j < l.length), ExprW l[j]) : ExprW (call1 n l) := by
  intro B b acc x w h hB h10 hE hx hlen
  obtain ⟨A, c, rfl, hs⟩ := hx
  obtain ⟨W1, hW1, q1, r1, hw1, hB1, hE1, hl1⟩ := w_open (o := wCall) (v := v0) (t := []) (n := n) (l := l) h hB h10 hE hs
  obtain ⟨a0, a1, a2, a3, a4, a5, a6⟩ := q1.cells
  have HB := Lib.hid r1
  have HW1 := Lib.hid hW1
  have HQ := Lib.hid q1
  have HL1 := Lib.hid hl1
  have HE1 := Lib.hid hE1
  have hso : str wCall = ⟨#[99, 97, 108, 108]⟩ := rfl
  have htx : (call1 n l).txt = n ++ brkB (joinB (txtL l)) := by rfl
  rw [htx] at hlen ⊢
  have HP := Lib.hid (fun acc w h hB hE hl hlen => listW_any l hy B b acc w A c h hB h10 hE hl hlen)
  simp only [call1, E.op, E.v, E.tb, E.nm, E.l, eVal, hso] at *
  have hsn : (str n).size = n.length := str_size n
  have hsl := str_list n
  have HC1 := Lib.hid (BX.wString B b acc (str n) W1.drew (BX.W63.drew hw1) (by simp only [List.length_append] at hlen; omega) hB1)
  rw [hsl] at HC1
  have HLen := Lib.hid hlen
  clear hW1 q1 r1 h hE hs hl1 hE1 hy hso htx hlen hw1 hsn hsl
  generalize str n = bn at *
  generalize hLL : l.length = ln at *
  clear hLL
  go_enter Tryz.func38, Tryz.ntmps38
  go_wp2_with (rw [← HW1.out])
  go_region_with (go_at_call 76; refine (HC1.out).mono ?_; rintro r w3 ⟨rfl, h3, b3, k3⟩)
  all_goals
    have hb3 : Below B W1 w3 := ((Below.refl B W1).drew).trans b3
    have hk3 : BX.Keep W1 w3 := (keep_below (Below.refl W1.heap.size W1).drew).trans k3
    have q3 := HQ.out.keep hk3
    obtain ⟨d0, d1, d2, d3, d4, d5, d6⟩ := q3.cells
    have hz3 := hb3.size
    have HC2 := Lib.hid (HP.out _ w3 h3 (by omega) (HE1.out.below hb3 h10) (HL1.out.next hb3 hk3) (by have := HLen.out; simp only [List.length_append] at this ⊢; omega))
    have HB3 := Lib.hid hb3
    have HK3 := Lib.hid hk3
    clear h3 b3 k3 q3 hb3 hk3
    go_wp2_with fail
    refine (HC2.out).mono ?_
    rintro r w5 ⟨rfl, h5, b5, k5⟩
    have h6 : BX.W63 B b (acc ++ (n ++ brkB (joinB (txtL l)))) w5 := by
      rw [← List.append_assoc]; exact h5
    go_wp2_with fail
    go_end0
    exact ⟨rfl, h6, ((HB.out.mono hB).trans HB3.out).trans b5, ((keep_below HB.out).trans HK3.out).trans k5⟩
end Go.Proofs.YthohfegnphocbaaGreatDoor
