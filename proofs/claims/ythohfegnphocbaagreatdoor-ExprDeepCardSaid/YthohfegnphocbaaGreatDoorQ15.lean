/- The reader in memory; a token read into a box; takes. No condition. -/
import Derived.Test.YthohfegnphocbaaGreatDoorQ10
import Derived.BigRegion
import Derived.WalkLawsBesides
import Derived.Test.YthohfegnphocbaaGreatDoorQ11
namespace Go.Proofs.YthohfegnphocbaaGreatDoor
open Go.RowKit
structure But (b : Nat) (w w' : World) : Prop where
  os : w'.os = w.os
  tape : w'.tape = w.tape
  output : w'.output = w.output
  size : w.heap.size ≤ w'.heap.size
  block : ∀ k, k < w.heap.size → k ≠ b → w'.heap[k]? = w.heap[k]?
theorem But.refl (b : Nat) (w : World) : But b w w := ⟨rfl, rfl, rfl, Nat.le_refl _, fun _ _ _ => rfl⟩
theorem But.trans {b : Nat} {w w1 w2 : World} (h : But b w w1) (h' : But b w1 w2) : But b w w2 :=
  ⟨h'.os.trans h.os, h'.tape.trans h.tape, h'.output.trans h.output, Nat.le_trans h.size h'.size, fun k hk hb => (h'.block k (Nat.lt_of_lt_of_le hk h.size) hb).trans (h.block k hk hb)⟩
theorem But.of {b B : Nat} {w w' : World} (h : Below B w w') (hB : w.heap.size ≤ B) : But b w w' := ⟨h.os, h.tape, h.output, h.size, fun k hk _ => h.block k (by omega)⟩
theorem But.below {b : Nat} {w w' : World} (h : But b w w') (hb : b < w.heap.size) : Below b w w' := ⟨h.os, h.tape, h.output, h.size, fun k hk => h.block k (by omega) (by omega)⟩
theorem But.then {b : Nat} {w w1 w2 : World} (h : But b w w1) (h' : Below w1.heap.size w1 w2) : But b w w2 := h.trans (.of h' (Nat.le_refl _))
theorem But.setCell {b : Nat} {w w1 : World} (h : But b w w1) (o : Nat) (u : Value) : But b w (w1.setCell ⟨b, o, none⟩ u) :=
  h.trans ⟨rfl, rfl, rfl, by rw [size_setCell]; exact Nat.le_refl _, fun k _ hk => Below.heap_setCell _ _ _ _ hk⟩
theorem But.seven {b : Nat} {w w' : World} {k : Nat} {c0 c1 c2 c3 c4 c5 c6 : Value} (hb : But b w w') (h : B7 w k c0 c1 c2 c3 c4 c5 c6) (hk : k ≠ b) : B7 w' k c0 c1 c2 c3 c4 c5 c6 := h.same (hb.block k h.lt hk)
theorem EAt.but {S : Nat → Prop} {b : Nat} {w w' : World} {e : E} {x : Value} (h : EAt S w e x) (hb : But b w w') (hS : ∀ k, S k → k ≠ b) : EAt S w' e x := h.keep (fun k hk hlt => ⟨hk, hb.block k hlt (hS k hk)⟩) hb.size
structure Fr (b B : Nat) (w w' : World) : Prop where
  os : w'.os = w.os
  tape : w'.tape = w.tape
  output : w'.output = w.output
  size : w.heap.size ≤ w'.heap.size
  block : ∀ k, k < B → k ≠ b → w'.heap[k]? = w.heap[k]?
theorem Fr.refl (b B : Nat) (w : World) : Fr b B w w := ⟨rfl, rfl, rfl, Nat.le_refl _, fun _ _ _ => rfl⟩
theorem Fr.trans {b B : Nat} {w w1 w2 : World} (h : Fr b B w w1) (h' : Fr b B w1 w2) : Fr b B w w2 :=
  ⟨h'.os.trans h.os, h'.tape.trans h.tape, h'.output.trans h.output, Nat.le_trans h.size h'.size, fun k hk hb => (h'.block k hk hb).trans (h.block k hk hb)⟩
theorem Fr.below {b B B' : Nat} {w w1 w2 : World} (h : Fr b B w w1) (h' : Below B' w1 w2) (hB : B ≤ B') : Fr b B w w2 := h.trans ⟨h'.os, h'.tape, h'.output, h'.size, fun k hk _ => h'.block k (by omega)⟩
theorem Fr.but {b B : Nat} {w w1 w2 : World} (h : Fr b B w w1) (h' : But b w1 w2) (hB : B ≤ w1.heap.size) : Fr b B w w2 := h.trans ⟨h'.os, h'.tape, h'.output, h'.size, fun k hk hb => h'.block k (by omega) hb⟩
theorem Fr.set {b B : Nat} {w w1 : World} (h : Fr b B w w1) (o : Nat) (u : Value) : Fr b B w (w1.setCell ⟨b, o, none⟩ u) := h.trans ⟨rfl, rfl, rfl, by rw [size_setCell]; exact Nat.le_refl _, fun k _ hk => Below.heap_setCell _ _ _ _ hk⟩
theorem Fr.end {b : Nat} {w w' : World} (h : Fr b w.heap.size w w') : But b w w' := ⟨h.os, h.tape, h.output, h.size, h.block⟩
structure Toks (ts : List T) : Prop where
  ok : ∀ t ∈ ts, TOk t ∧ Tk1 t
  len : ts.length ≤ 5000
  num : ∀ t ∈ ts, t.k = 6 ∨ t.k < 6
  fin : ∀ (h : 0 < ts.length), (ts[ts.length - 1]'(by omega)).k = 6
structure RS (w : World) (b : Nat) (ts : List T) (A : Option Addr) (c : Nat) (p : Nat) (d : Bool) : Prop where
  box : w.heap[b]? = some (.cells #[.slice A ts.length c, .int .i64 p, .bool d] 60 (0, 0))
  toks : TAt w b A ts
  hp : p < ts.length
theorem RS.lt {w : World} {b : Nat} {ts : List T} {A : Option Addr} {c p : Nat} {d : Bool} (h : RS w b ts A c p d) : b < w.heap.size := (Array.getElem?_eq_some_iff.1 h.box).1
theorem RS.cells {w : World} {b : Nat} {ts : List T} {A : Option Addr} {c p : Nat} {d : Bool} (h : RS w b ts A c p d) : w.cell? ⟨b, 0, none⟩ = some (.slice A ts.length c) ∧ w.cell? ⟨b, 1, none⟩ = some (.int .i64 p) ∧ w.cell? ⟨b, 2, none⟩ = some (.bool d) ∧ w.frozen? ⟨b, 1, none⟩ = false ∧ w.frozen? ⟨b, 2, none⟩ = false :=
  ⟨by rw [Lib.cell_of_heap h.box]; rfl, by rw [Lib.cell_of_heap h.box]; rfl, by rw [Lib.cell_of_heap h.box]; rfl, Lib.frozen_of_heap h.box 1, Lib.frozen_of_heap h.box 2⟩
theorem RS.later {w w' : World} {b : Nat} {ts : List T} {A : Option Addr} {c p : Nat} {d : Bool} (h : RS w b ts A c p d) (hb : Below w.heap.size w w') : RS w' b ts A c p d :=
  ⟨(hb.block b h.lt).trans h.box, h.toks.below (hb.mono (Nat.le_of_lt h.lt)), h.hp⟩
theorem RS.at {w : World} {b : Nat} {ts : List T} {A : Option Addr} {c p : Nat} {d : Bool} (h : RS w b ts A c p d) {q : Nat} (hq : q < ts.length) : RS (w.setCell ⟨b, 1, none⟩ (.int .i64 q)) b ts A c q d := by
  refine ⟨?_, h.toks.below ((Below.refl b w).setCell (p := ⟨b, 1, none⟩) (Nat.le_refl _) _), hq⟩
  have := heap_set_same (.int .i64 q) (o := 1) h.box
  simpa only [List.setIfInBounds_toArray, List.set_cons_zero, List.set_cons_succ] using this
theorem RS.deep {w : World} {b : Nat} {ts : List T} {A : Option Addr} {c p : Nat} {d : Bool} (h : RS w b ts A c p d) (d' : Bool) : RS (w.setCell ⟨b, 2, none⟩ (.bool d')) b ts A c p d' := by
  refine ⟨?_, h.toks.below ((Below.refl b w).setCell (p := ⟨b, 2, none⟩) (Nat.le_refl _) _), h.hp⟩
  have := heap_set_same (.bool d') (o := 2) h.box
  simpa only [List.setIfInBounds_toArray, List.set_cons_zero, List.set_cons_succ] using this
theorem RS.own {w w' : World} {b r : Nat} {ts : List T} {A : Option Addr} {c p : Nat} {d : Bool} (h : RS w b ts A c p d) (hb : b < r) (o : ∀ k, k ≠ r → w'.heap[k]? = w.heap[k]?) (hB : ∀ B, B ≤ r → Below B w w') : RS w' b ts A c p d :=
  ⟨(o b (by omega)).trans h.box, h.toks.below (hB b (by omega)), h.hp⟩
theorem here_drop {ts : List T} {p : Nat} (h : p < ts.length) : here (ts.drop p) = ts[p] := by
  rw [List.drop_eq_getElem_cons h]; rfl
theorem Toks.here {ts : List T} (h : Toks ts) {p : Nat} (hp : p < ts.length) : Tk1 (here (ts.drop p)) ∧ TOk (here (ts.drop p)) := by
  rw [here_drop hp]
  have := h.ok _ (List.getElem_mem hp)
  exact ⟨this.2, this.1⟩
theorem Toks.next {ts : List T} (h : Toks ts) {p : Nat} (hp : p < ts.length) (hk : (Go.Proofs.YthohfegnphocbaaGreatDoor.here (ts.drop p)).k ≠ 6) : p + 1 < ts.length := by
  rw [here_drop hp] at hk
  have := h.fin (by omega)
  rcases Nat.lt_or_ge (p + 1) ts.length with h1 | h1
  · exact h1
  · exfalso
    apply hk
    have e : p = ts.length - 1 := by omega
    simp only [e]
    exact this
theorem isS_kind {s : List UInt8} {l : List T} (h : isS s l = true) : (here l).k ≠ 6 := by
  intro e
  unfold isS at h
  rw [e] at h
  simp at h
theorem readT (w : World) (t : T) : TBox (w.alloc (.cells #[.int .i64 t.k, .string (str t.s), .int .i64 t.i, .int .i64 t.p] 51)).drew w.heap.size t ∧ Below w.heap.size w (w.alloc (.cells #[.int .i64 t.k, .string (str t.s), .int .i64 t.i, .int .i64 t.p] 51)).drew ∧
    TBox (w.alloc (.cells #[.int .i64 0, .string ⟨#[]⟩, .int .i64 0, .int .i64 0] 51)) w.heap.size zT ∧ Below w.heap.size w (w.alloc (.cells #[.int .i64 0, .string ⟨#[]⟩, .int .i64 0, .int .i64 0] 51)) :=
  ⟨TBox.made w t, ((Below.refl w.heap.size w).alloc (Nat.le_refl _) _).drew, zbox w, (Below.refl w.heap.size w).alloc (Nat.le_refl _) _⟩
set_option maxRecDepth 100000 in
set_option maxHeartbeats 2000000 in
theorem takes_any {ts : List T} (hT : Toks ts) (w : World) (b : Nat) (A : Option Addr) (c p : Nat) (d : Bool) (h : RS w b ts A c p d) (k : Int) (m : ByteArray) (hk : (k = 1 ∧ headIs m.data.toList isLet = true) ∨ (k = 5 ∧ headIs m.data.toList isLet = false)) :
    Calls Tryz.prog 104 #[.pointer (some ⟨b, 0, none⟩), .int .i64 k, .string m] w fun e w' => e = .returned (.bool (isS m.data.toList (ts.drop p))) ∧ RS w' b ts A c (if isS m.data.toList (ts.drop p) then p + 1 else p) d ∧ But b w w' := by
  have hp := h.hp
  have hlen := hT.len
  obtain ⟨c0, c1, c2, f1, f2⟩ := h.cells
  obtain ⟨g, off, rfl, hg, hc⟩ := h.toks (by omega)
  obtain ⟨t0, t1, t2, t3⟩ := hc p hp
  have hr : isS m.data.toList (ts.drop p) = (decide (ts[p].k = k) && (str ts[p].s).toList == m.toList) := by
    have h1 := (hT.here hp).1
    have e : ((str ts[p].s).toList == m.toList) = (ts[p].s == m.data.toList) := by rw [Lib.toList_data, Lib.toList_data, str_list]
    rw [e]
    rcases hk with ⟨rfl, h2⟩ | ⟨rfl, h2⟩
    · rw [isS_word h1 h2, here_drop hp]
    · rw [isS_sign h1 h2, here_drop hp]
  have hn : isS m.data.toList (ts.drop p) = true → p + 1 < ts.length := fun hh => hT.next hp (isS_kind hh)
  obtain ⟨b2, hb2, b1, hb1⟩ := readT w ts[p]
  obtain ⟨z0, z1, z2, z3⟩ := b1.zcells
  obtain ⟨y0, y1, y2, y3⟩ := b1.free
  obtain ⟨u0, u1, u2, u3⟩ := b2.cells
  have hR := h.later hb2
  obtain ⟨v0, v1, v2, v3, v4⟩ := hR.cells
  have hR1 := h.later hb1
  obtain ⟨d0, d1, d2, d3, d4⟩ := hR1.cells
  have hpz : (p : Int) < (ts.length : Int) := by omega
  have e0 := (hb1.cell (p := ⟨g, off + p * 4, none⟩) (by have := h.lt; show g < _; omega)).trans t0
  have e1 := (hb1.cell (p := ⟨g, off + p * 4 + 1, none⟩) (by have := h.lt; show g < _; omega)).trans t1
  have e2 := (hb1.cell (p := ⟨g, off + p * 4 + 2, none⟩) (by have := h.lt; show g < _; omega)).trans t2
  have e3 := (hb1.cell (p := ⟨g, off + p * 4 + 3, none⟩) (by have := h.lt; show g < _; omega)).trans t3
  have HR := Lib.hid hR
  have HB := Lib.hid hb2
  generalize hq : isS m.data.toList (ts.drop p) = q at *
  clear h hR hR1 b1 b2 hb1 hb2 hc hT hk hq
  generalize ts[p].k = tk at *
  generalize str ts[p].s = tx at *
  generalize ts[p].i = ti at *
  generalize ts[p].p = tp at *
  clear hp
  have HN := Lib.hid hn
  clear hn
  by_cases hk : tk = k
  · subst hk
    simp only [decide_true, Bool.true_and] at hr
    cases q
    · have hx : (tx.toList == m.toList) = false := hr.symm
      clear hr
      go_enter Tryz.func104, Tryz.ntmps104
      go_wp2_with fail
      go_region
      generalize (w.alloc (.cells #[.int .i64 tk, .string tx, .int .i64 ti, .int .i64 tp] 51)).drew = W at *
      go_wp2_with fail
      go_ret
      exact ⟨rfl, HR.out, .of HB.out (Nat.le_refl _)⟩
    · have hx : (tx.toList == m.toList) = true := hr.symm
      clear hr
      have hpn := HN.out rfl
      go_enter Tryz.func104, Tryz.ntmps104
      go_wp2_with fail
      go_region
      generalize (w.alloc (.cells #[.int .i64 tk, .string tx, .int .i64 ti, .int .i64 tp] 51)).drew = W at *
      go_wp2_with fail
      go_ret
      exact ⟨rfl, HR.out.at hpn, (But.of HB.out (Nat.le_refl _)).setCell _ _⟩
  · have hq : q = false := by rw [hr]; simp [hk]
    subst hq
    have hne : (tk == k) = false := by simpa using hk
    clear hr
    go_enter Tryz.func104, Tryz.ntmps104
    go_wp2_with fail
    go_region
    generalize (w.alloc (.cells #[.int .i64 tk, .string tx, .int .i64 ti, .int .i64 tp] 51)).drew = W at *
    go_wp2_with fail
    go_ret
    exact ⟨rfl, HR.out, .of HB.out (Nat.le_refl _)⟩
end Go.Proofs.YthohfegnphocbaaGreatDoor
namespace Go.Proofs.YthohfegnphocbaaGreatDoor
open Go.RowKit
def MAt (w : World) (g : Nat) (ms : List ByteArray) : Prop := g < w.heap.size ∧ ∀ j (h : j < ms.length), w.cell? ⟨g, j, none⟩ = some (.string ms[j])
def gone (p : Nat) : Ending := .panicked [{ v := .iface 56 (.int .i64 p), recovered := false }]
set_option maxRecDepth 100000 in
set_option maxHeartbeats 2000000 in
theorem want_any {ts : List T} (hT : Toks ts) (w : World) (b : Nat) (A : Option Addr) (c p : Nat) (d : Bool) (h : RS w b ts A c p d) (k : Int) (ms : List ByteArray) (g : Nat) (hM : MAt w g ms) (hg : g ≠ b) (hlen : ms.length ≤ 1000) (n : Int) (hn : n = ms.length)
    (hk : ∀ m ∈ ms, (k = 1 ∧ headIs m.data.toList isLet = true) ∨ (k = 5 ∧ headIs m.data.toList isLet = false)) :
    Calls Tryz.prog 108 #[.pointer (some ⟨b, 0, none⟩), .int .i64 k, .slice (some ⟨g, 0, none⟩) ms.length ms.length] w fun e w' => (match ms.find? fun m => isS m.data.toList (ts.drop p) with
      | none => e = gone p ∧ RS w' b ts A c p d
      | some m => e = .returned (.string m) ∧ RS w' b ts A c (p + 1) d) ∧ But b w w' := by
  have HT := Lib.hid (fun w h m hm => takes_any hT w b A c p d h k m (hk m hm))
  have H0 := Lib.hid h
  have HM := Lib.hid hM
  have HB0 := Lib.hid (But.refl b w)
  have hlen2 : ms.length ≤ 9223372036854775807 := by omega
  have HL := Lib.hid hlen
  generalize hf : ms.find? (fun m => isS m.data.toList (ts.drop p)) = fo at *
  have HF := Lib.hid hf
  clear hf h hM hk hT hn hlen
  go_enter Tryz.func108, Tryz.ntmps108
  go_wp2_with fail
  go_loopw [11] (fun iv wr => ∃ j : Nat, j ≤ ms.length ∧ iv = .int .i64 j ∧ Hid ((ms.drop j).find? (fun m => isS m.data.toList (ts.drop p)) = fo) ∧ Hid (RS wr b ts A c p d) ∧ Hid (But b w wr)) (fun iv _ => ms.length - (intOf iv).toNat)
  case atStart => exact ⟨0, Nat.zero_le _, rfl, by rw [List.drop_zero]; exact HF.out, H0.out, HB0.out⟩
  case round =>
    obtain ⟨j, hj, rfl, HJ, HR, HB⟩ := hrel
    by_cases hlt : j < ms.length
    · have hjz : (j : Int) < (ms.length : Int) := by omega
      have hcell : wr.cell? ⟨g, 0 + j, none⟩ = some (.string ms[j]) := by
        rw [Nat.zero_add, World.cell?_of_block (w := w) (a := ⟨g, j, none⟩) (HB.out.block g HM.out.1 hg)]
        exact HM.out.2 j hlt
      rw [Nat.zero_add] at hcell
      have hd := List.drop_eq_getElem_cons hlt
      have HT2 := Lib.hid (HT.out wr HR.out ms[j] (List.getElem_mem hlt))
      have hfj := HJ.out
      rw [hd, List.find?_cons] at hfj
      have HFJ := Lib.hid hfj
      have HL2 := Lib.hid HL.out
      clear hfj hd HT H0 HM HB0 HF
      generalize ms[j] = m at *
      cases hq : isS m.data.toList (ts.drop p)
      · have HFJ2 : Hid ((ms.drop (j + 1)).find? (fun m => isS m.data.toList (ts.drop p)) = fo) := by
          have := HFJ.out
          rw [hq] at this
          exact this
        rw [hq] at HT2
        simp only [Bool.false_eq_true, if_false] at HT2
        clear HFJ hq
        go_wp2_with fail
        refine (HT2.out).mono ?_
        rintro e w3 ⟨rfl, r3, b3⟩
        have HR3 := Lib.hid r3
        have HB3 := Lib.hid (HB.out.trans b3)
        clear r3 b3
        go_wp2_with fail
        have hL := HL2.out
        go_roundw
        case measure => simp [intOf]; omega
        case rel => exact ⟨j + 1, by omega, by go_num, HFJ2, HR3, HB3⟩
      · have hfo : some m = fo := by
          have := HFJ.out
          rw [hq] at this
          exact this
        subst hfo
        rw [hq] at HT2
        simp only [if_true] at HT2
        clear HFJ hq
        go_wp2_with fail
        refine (HT2.out).mono ?_
        rintro e w3 ⟨rfl, r3, b3⟩
        have HR3 := Lib.hid r3
        have HB3 := Lib.hid (HB.out.trans b3)
        clear r3 b3
        go_wp2_with fail
        go_ret
        exact ⟨⟨rfl, HR3.out⟩, HB3.out⟩
    · have hjz : ¬ (j : Int) < (ms.length : Int) := by omega
      have hfo : none = fo := by
        have := HJ.out
        rw [List.drop_of_length_le (l := ms) (i := j) (by omega)] at this
        exact this
      subst hfo
      obtain ⟨-, c1, -, -, -⟩ := HR.out.cells
      clear HJ HT H0 HM HB0 HF
      go_wp2_with fail
      exact ⟨rfl, ⟨rfl, HR.out⟩, HB.out⟩
theorem mark1 (w : World) (m : ByteArray) : ∃ W : World, W = w.alloc (.cells #[.string m] 9) ∧ MAt W w.heap.size [m] ∧ W.heap.size = w.heap.size + 1 ∧ Below w.heap.size w W := by
  refine ⟨_, rfl, ⟨by simp, fun j hj => ?_⟩, by simp, (Below.refl w.heap.size w).alloc (Nat.le_refl _) _⟩
  have : j = 0 := by simpa using hj
  subst this
  rw [Lib.cell_of_heap (heap_alloc_new w _)]
  rfl
theorem want1 {ts : List T} (hT : Toks ts) (k : Int) (mb : ByteArray) (m : List UInt8) (he : mb.data.toList = m) (hk : (k = 1 ∧ headIs m isLet = true) ∨ (k = 5 ∧ headIs m isLet = false)) (w : World) (b : Nat) (A : Option Addr) (c p : Nat) (d : Bool) (h : RS w b ts A c p d) (g : Nat) (hM : MAt w g [mb]) (hg : g ≠ b) :
    Calls Tryz.prog 108 #[.pointer (some ⟨b, 0, none⟩), .int .i64 k, .slice (some ⟨g, 0, none⟩) 1 1] w fun e w' => (if isS m (ts.drop p) = true then e = .returned (.string mb) ∧ RS w' b ts A c (p + 1) d else e = gone p ∧ RS w' b ts A c p d) ∧ But b w w' := by
  refine (want_any hT w b A c p d h k [mb] g hM hg (by simp) 1 rfl (by intro m' hm'; simp at hm'; subst hm'; rw [he]; exact hk)).mono fun e w' hh => ?_
  rw [List.find?_cons, List.find?_nil, he] at hh
  refine ⟨?_, hh.2⟩
  have h1 := hh.1
  cases hc : isS m (ts.drop p)
  · rw [hc] at h1; exact h1
  · rw [hc] at h1; exact h1
theorem take1 {ts : List T} (hT : Toks ts) (k : Int) (mb : ByteArray) (m : List UInt8) (he : mb.data.toList = m) (hk : (k = 1 ∧ headIs m isLet = true) ∨ (k = 5 ∧ headIs m isLet = false)) (w : World) (b : Nat) (A : Option Addr) (c p : Nat) (d : Bool) (h : RS w b ts A c p d) :
    Calls Tryz.prog 104 #[.pointer (some ⟨b, 0, none⟩), .int .i64 k, .string mb] w fun e w' => e = .returned (.bool (isS m (ts.drop p))) ∧ RS w' b ts A c (if isS m (ts.drop p) then p + 1 else p) d ∧ But b w w' := by
  subst he
  exact takes_any hT w b A c p d h k mb hk
end Go.Proofs.YthohfegnphocbaaGreatDoor
namespace Go.Proofs.YthohfegnphocbaaGreatDoor
open Go.RowKit
def Got (w : World) (S : Nat → Prop) (e : E) (d : Bool) (x : Value) : Prop := ∃ e', EAt S w e' x ∧ (d = false → e' = e)
theorem Got.later {w w' : World} {S : Nat → Prop} {e : E} {d : Bool} {x : Value} (h : Got w S e d x) (hb : Below w.heap.size w w') : Got w' S e d x := by
  obtain ⟨e', h1, h2⟩ := h
  exact ⟨e', h1.later hb, h2⟩
theorem Got.but {w w' : World} {S : Nat → Prop} {b : Nat} {e : E} {d : Bool} {x : Value} (h : Got w S e d x) (hb : But b w w') (hS : ∀ k, S k → k ≠ b) : Got w' S e d x := by
  obtain ⟨e', h1, h2⟩ := h
  exact ⟨e', h1.but hb hS, h2⟩
theorem Got.wide {w : World} {S S' : Nat → Prop} {e : E} {d : Bool} {x : Value} (h : Got w S e d x) (hS : ∀ k, S k → k < w.heap.size → S' k) : Got w S' e d x := by
  obtain ⟨e', h1, h2⟩ := h
  exact ⟨e', h1.keep (fun k hk hl => ⟨hS k hk hl, rfl⟩) (Nat.le_refl _), h2⟩
theorem Got.more {w : World} {S : Nat → Prop} {e : E} {d d' : Bool} {x : Value} (h : Got w S e d x) (hd : d' = false → d = false) : Got w S e d' x := by
  obtain ⟨e', h1, h2⟩ := h
  exact ⟨e', h1, fun h => h2 (hd h)⟩
theorem e0_at (S : Nat → Prop) (w : World) : EAt S w e0 (.agg #[.string ⟨#[]⟩, .int .i64 0, .int .i64 0, .string ⟨#[]⟩, .string ⟨#[]⟩, .string ⟨#[]⟩, .slice none 0 0]) := ⟨none, 0, rfl, by simp [Sub, e0]⟩
theorem Got.agg {w : World} {S : Nat → Prop} {e : E} {d : Bool} {x : Value} (h : Got w S e d x) : ∃ s0 i1 i2 s3 s4 s5 A n c, x = .agg #[.string s0, .int .i64 i1, .int .i64 i2, .string s3, .string s4, .string s5, .slice A n c] := by
  obtain ⟨e', h1, -⟩ := h
  exact h1.agg
def tooDp (d : Bool) (e : E) : Bool := d || decide (40 < e.deep)
set_option maxRecDepth 100000 in
set_option maxHeartbeats 2000000 in
theorem kept_any {ts : List T} (w : World) (b : Nat) (A : Option Addr) (c p : Nat) (d : Bool) (h : RS w b ts A c p d) (S : Nat → Prop) (e : E) (x : Value) (hx : Got w S e d x) (hd : d = false → e.deep ≤ 1000000) (hS : ∀ k, S k → k ≠ b) :
    Calls Tryz.prog 109 #[.pointer (some ⟨b, 0, none⟩), x] w fun r w' => ∃ y, r = .returned y ∧ Got w' S e (tooDp d e) y ∧ RS w' b ts A c p (tooDp d e) ∧ But b w w' := by
  have hlt := h.lt
  obtain ⟨s0, i1, i2, s3, s4, s5, A9, n9, c9, rfl⟩ := hx.agg
  obtain ⟨W1, hW1, q1, z1, r1⟩ := box7 w (.string s0) (.int .i64 i1) (.int .i64 i2) (.string s3) (.string s4) (.string s5) (.slice A9 n9 c9)
  obtain ⟨W2, hW2, q2, z2, r2⟩ := zero7 W1
  rw [z1] at q2 z2
  have R2 := (h.later r1).later r2
  have B2 := bthen r1 r2
  have q1' := q1.later r2
  obtain ⟨v0, v1, v2, v3, v4⟩ := R2.cells
  have HW1 := Lib.hid hW1
  have HW2 := Lib.hid hW2
  obtain ⟨g0, g1, g2, g3, g4, g5, g6⟩ := q1'.cells
  cases d with
  | true =>
    have R3 := R2.deep true
    have F3 := ((Fr.refl b w.heap.size w).below B2 (Nat.le_refl _)).set 2 (.bool true)
    have q3 : B7 (W2.setCell ⟨b, 2, none⟩ (.bool true)) (w.heap.size + 1) (.string ⟨#[]⟩) (.int .i64 0) (.int .i64 0) (.string ⟨#[]⟩) (.string ⟨#[]⟩) (.string ⟨#[]⟩) (.slice none 0 0) := q2.same (Below.heap_setCell _ _ _ _ (by show _ ≠ b; omega))
    obtain ⟨W3, hW3⟩ : ∃ W3, W3 = W2.setCell ⟨b, 2, none⟩ (.bool true) := ⟨_, rfl⟩
    rw [← hW3] at R3 F3 q3
    obtain ⟨-, -, u2, -, -⟩ := R3.cells
    obtain ⟨W4, hW4, q4, z4, o4, b4⟩ := stored7 q3 (.string ⟨#[]⟩) (.int .i64 0) (.int .i64 0) (.string ⟨#[]⟩) (.string ⟨#[]⟩) (.string ⟨#[]⟩) (.slice none 0 0)
    have HW3 := Lib.hid hW3
    have HW4 := Lib.hid hW4
    obtain ⟨k0, k1, k2, k3, k4, k5, k6⟩ := q3.cells
    obtain ⟨f0, f1, f2, f3, f4, f5, f6⟩ := q3.free
    obtain ⟨j0, j1, j2, j3, j4, j5, j6⟩ := q4.cells
    have HR := Lib.hid (R3.own (by omega) o4 b4)
    have HB := Lib.hid (F3.below (b4 _ (Nat.le_succ _)) (Nat.le_refl _)).end
    clear hW1 hW2 hW3 hW4 q1 q2 q3 q4 q1' r1 r2 R2 R3 F3 b4 o4 B2 h hd hx
    go_enter Tryz.func109, Tryz.ntmps109
    go_wp2_with (first | (rw [← HW4.out]) | (rw [← HW3.out]) | (rw [← HW2.out]) | (rw [← HW1.out]))
    exact bodyPost_ret (v := .agg #[.string ⟨#[]⟩, .int .i64 0, .int .i64 0, .string ⟨#[]⟩, .string ⟨#[]⟩, .string ⟨#[]⟩, .slice none 0 0]) (by simp [results, Tryz.results109, go_sem, j0, j1, j2, j3, j4, j5, j6]) rfl ⟨_, rfl, ⟨e0, e0_at _ _, fun h => by cases h⟩, HR.out, HB.out⟩
  | false =>
    obtain ⟨e', hat, he⟩ := hx
    obtain rfl := he rfl
    have hat2 := hat.lim.later B2
    have HC := Lib.hid (deep_any e' _ _ W2 hat2 (hd rfl))
    have HAT := Lib.hid hat2
    have hdp := hd rfl
    have h40 : tooDp false e' = decide (40 < e'.deep) := rfl
    rw [h40]
    by_cases h4 : 40 < e'.deep
    · rw [decide_eq_true h4]
      have h4z : (40 : Int) < (e'.deep : Int) := by omega
      generalize e'.deep = dp at *
      clear hat hat2 hd he h40 hW1 hW2 h
      go_enter Tryz.func109, Tryz.ntmps109
      go_wp2_with (first | (rw [← HW2.out]) | (rw [← HW1.out]))
      refine (HC.out).mono ?_
      rintro r w3 ⟨rfl, b3⟩
      have R3 := (R2.later b3).deep true
      have F3 := (((Fr.refl b w.heap.size w).below B2 (Nat.le_refl _)).below b3 (by omega)).set 2 (.bool true)
      have q3 : B7 (w3.setCell ⟨b, 2, none⟩ (.bool true)) (w.heap.size + 1) (.string ⟨#[]⟩) (.int .i64 0) (.int .i64 0) (.string ⟨#[]⟩) (.string ⟨#[]⟩) (.string ⟨#[]⟩) (.slice none 0 0) := (q2.later b3).same (Below.heap_setCell _ _ _ _ (by show _ ≠ b; omega))
      obtain ⟨t0, t1, t2, t3, t4⟩ := (R2.later b3).cells
      obtain ⟨W3, hW3⟩ : ∃ W3, W3 = w3.setCell ⟨b, 2, none⟩ (.bool true) := ⟨_, rfl⟩
      rw [← hW3] at R3 F3 q3
      obtain ⟨-, -, u2, -, -⟩ := R3.cells
      obtain ⟨W4, hW4, q4, z4, o4, b4⟩ := stored7 q3 (.string ⟨#[]⟩) (.int .i64 0) (.int .i64 0) (.string ⟨#[]⟩) (.string ⟨#[]⟩) (.string ⟨#[]⟩) (.slice none 0 0)
      have HW3 := Lib.hid hW3
      have HW4 := Lib.hid hW4
      obtain ⟨k0, k1, k2, k3, k4, k5, k6⟩ := q3.cells
      obtain ⟨f0, f1, f2, f3, f4, f5, f6⟩ := q3.free
      obtain ⟨j0, j1, j2, j3, j4, j5, j6⟩ := q4.cells
      have HR := Lib.hid (R3.own (by omega) o4 b4)
      have HB := Lib.hid (F3.below (b4 _ (Nat.le_succ _)) (Nat.le_refl _)).end
      clear hW3 hW4 q1 q2 q3 q4 q1' r1 r2 R2 R3 F3 b4 o4 B2 b3
      go_wp2_with (first | (rw [← HW4.out]) | (rw [← HW3.out]))
      exact bodyPost_ret (v := .agg #[.string ⟨#[]⟩, .int .i64 0, .int .i64 0, .string ⟨#[]⟩, .string ⟨#[]⟩, .string ⟨#[]⟩, .slice none 0 0]) (by simp [results, Tryz.results109, go_sem, j0, j1, j2, j3, j4, j5, j6]) rfl ⟨_, rfl, ⟨e0, e0_at _ _, fun h => by cases h⟩, HR.out, HB.out⟩
    · rw [decide_eq_false h4]
      have h4z : ¬ (40 : Int) < (e'.deep : Int) := by omega
      generalize e'.deep = dp at *
      clear hat hat2 hd he h40 hW1 hW2 h
      go_enter Tryz.func109, Tryz.ntmps109
      go_wp2_with (first | (rw [← HW2.out]) | (rw [← HW1.out]))
      refine (HC.out).mono ?_
      rintro r w3 ⟨rfl, b3⟩
      have R3 := (R2.later b3).deep (decide ((40 : Int) < (dp : Int)))
      have F3 := (((Fr.refl b w.heap.size w).below B2 (Nat.le_refl _)).below b3 (by omega)).set 2 (.bool (decide ((40 : Int) < (dp : Int))))
      have q3 : B7 (w3.setCell ⟨b, 2, none⟩ (.bool (decide ((40 : Int) < (dp : Int))))) (w.heap.size + 1) (.string ⟨#[]⟩) (.int .i64 0) (.int .i64 0) (.string ⟨#[]⟩) (.string ⟨#[]⟩) (.string ⟨#[]⟩) (.slice none 0 0) := (q2.later b3).same (Below.heap_setCell _ _ _ _ (by show _ ≠ b; omega))
      have q3' : B7 (w3.setCell ⟨b, 2, none⟩ (.bool (decide ((40 : Int) < (dp : Int))))) w.heap.size (.string s0) (.int .i64 i1) (.int .i64 i2) (.string s3) (.string s4) (.string s5) (.slice A9 n9 c9) := (q1'.later b3).same (Below.heap_setCell _ _ _ _ (by show _ ≠ b; omega))
      obtain ⟨t0, t1, t2, t3, t4⟩ := (R2.later b3).cells
      have hat3 : EAt (fun k => S k ∧ k < w.heap.size) (w3.setCell ⟨b, 2, none⟩ (.bool (decide ((40 : Int) < (dp : Int))))) e' (.agg #[.string s0, .int .i64 i1, .int .i64 i2, .string s3, .string s4, .string s5, .slice A9 n9 c9]) := (HAT.out.later b3).keep (fun k hk _ => ⟨hk, Below.heap_setCell _ _ _ _ (hS k hk.1)⟩) (by rw [size_setCell]; exact Nat.le_refl _)
      obtain ⟨W3, hW3⟩ : ∃ W3, W3 = w3.setCell ⟨b, 2, none⟩ (.bool (decide ((40 : Int) < (dp : Int)))) := ⟨_, rfl⟩
      rw [← hW3] at R3 F3 q3 q3' hat3
      obtain ⟨-, -, u2, -, -⟩ := R3.cells
      obtain ⟨W4, hW4, q4, z4, o4, b4⟩ := stored7 q3 (.string s0) (.int .i64 i1) (.int .i64 i2) (.string s3) (.string s4) (.string s5) (.slice A9 n9 c9)
      have hat4 : EAt S W4 e' (.agg #[.string s0, .int .i64 i1, .int .i64 i2, .string s3, .string s4, .string s5, .slice A9 n9 c9]) := hat3.keep (fun k hk _ => ⟨hk.1, o4 k (by have := hk.2; omega)⟩) (by omega)
      have HW3 := Lib.hid hW3
      have HW4 := Lib.hid hW4
      obtain ⟨k0, k1, k2, k3, k4, k5, k6⟩ := q3.cells
      obtain ⟨f0, f1, f2, f3, f4, f5, f6⟩ := q3.free
      obtain ⟨l0, l1, l2, l3, l4, l5, l6⟩ := q3'.cells
      obtain ⟨j0, j1, j2, j3, j4, j5, j6⟩ := q4.cells
      have hR4 := R3.own (by omega) o4 b4
      rw [show decide ((40 : Int) < (dp : Int)) = false from decide_eq_false (by omega)] at hR4
      have HR := Lib.hid hR4
      clear hR4
      have HB := Lib.hid (F3.below (b4 _ (Nat.le_succ _)) (Nat.le_refl _)).end
      have HG := Lib.hid hat4
      clear hW3 hW4 q1 q2 q3 q3' q4 q1' r1 r2 R2 R3 F3 b4 o4 B2 b3 hat3 hat4
      go_wp2_with (first | (rw [← HW4.out]) | (rw [← HW3.out]))
      exact bodyPost_ret (v := .agg #[.string s0, .int .i64 i1, .int .i64 i2, .string s3, .string s4, .string s5, .slice A9 n9 c9]) (by simp [results, Tryz.results109, go_sem, j0, j1, j2, j3, j4, j5, j6]) rfl ⟨_, rfl, ⟨_, HG.out, fun _ => rfl⟩, HR.out, HB.out⟩
end Go.Proofs.YthohfegnphocbaaGreatDoor
namespace Go.Proofs.YthohfegnphocbaaGreatDoor
open Go.RowKit
def LGot (w : World) (S : Nat → Prop) (l : List E) (d : Bool) (v : Value) : Prop := ∃ (l' : List E) (A : Option Addr) (c : Nat), v = .slice A l'.length c ∧ Sub S w (op1 [] l') A c ∧ (d = false → l' = l)
theorem LGot.keep {w w' : World} {S S' : Nat → Prop} {l : List E} {d : Bool} {v : Value} (h : LGot w S l d v) (hS : ∀ k, S k → k < w.heap.size → S' k ∧ w'.heap[k]? = w.heap[k]?) (hz : w.heap.size ≤ w'.heap.size) : LGot w' S' l d v := by
  obtain ⟨l', A, c, h1, h2, h3⟩ := h
  exact ⟨l', A, c, h1, h2.keep hS hz, h3⟩
theorem LGot.lim {w : World} {S : Nat → Prop} {l : List E} {d : Bool} {v : Value} (h : LGot w S l d v) : LGot w (fun k => S k ∧ k < w.heap.size) l d v := h.keep (fun _ hk hlt => ⟨⟨hk, hlt⟩, rfl⟩) (Nat.le_refl _)
theorem LGot.later {w w' : World} {S : Nat → Prop} {l : List E} {d : Bool} {v : Value} (h : LGot w S l d v) (hb : Below w.heap.size w w') : LGot w' S l d v := h.keep (fun k hk hlt => ⟨hk, hb.block k hlt⟩) hb.size
theorem LGot.whole {w : World} {S : Nat → Prop} {l : List E} {d : Bool} {A : Option Addr} {n c : Nat} (h : LGot w S l d (.slice A n c)) (o nm : List UInt8) : Got w S (.mk o v0 [] nm l) d (.agg #[.string (str o), .int .i64 0, .int .i64 0, .string ⟨#[]⟩, .string ⟨#[]⟩, .string (str nm), .slice A n c]) := by
  obtain ⟨l', A', c', h1, h2, h3⟩ := h
  obtain ⟨rfl, rfl, rfl⟩ : A = A' ∧ n = l'.length ∧ c = c' := by simpa using h1
  exact ⟨.mk o v0 [] nm l', ⟨A, c, rfl, by unfold op1 at h2; simp only [Sub] at *; exact h2⟩, fun hd => by rw [h3 hd]⟩
theorem put7 {w : World} {b : Nat} {ts : List T} {A : Option Addr} {c p : Nat} {d : Bool} {S : Nat → Prop} {e : E} {d' : Bool} {s0 s3 s4 s5 : ByteArray} {i1 i2 : Int} {A9 : Option Addr} {n9 c9 r : Nat} {z0 z1 z2 z3 z4 z5 z6 : Value}
    (R : RS w b ts A c p d) (G : Got w S e d' (.agg #[.string s0, .int .i64 i1, .int .i64 i2, .string s3, .string s4, .string s5, .slice A9 n9 c9])) (q : B7 w r z0 z1 z2 z3 z4 z5 z6) (hr : b < r) (hS : ∀ k, S k → k ≠ r) :
    ∃ W : World, W = (((((((w.setCell ⟨r, 0, none⟩ (.string s0)).setCell ⟨r, 1, none⟩ (.int .i64 i1)).setCell ⟨r, 2, none⟩ (.int .i64 i2)).setCell ⟨r, 3, none⟩ (.string s3)).setCell ⟨r, 4, none⟩ (.string s4)).setCell ⟨r, 5, none⟩ (.string s5)).setCell ⟨r, 6, none⟩ (.slice A9 n9 c9)) ∧
      B7 W r (.string s0) (.int .i64 i1) (.int .i64 i2) (.string s3) (.string s4) (.string s5) (.slice A9 n9 c9) ∧ RS W b ts A c p d ∧ Got W S e d' (.agg #[.string s0, .int .i64 i1, .int .i64 i2, .string s3, .string s4, .string s5, .slice A9 n9 c9]) ∧ (∀ B, B ≤ r → Below B w W) ∧ W.heap.size = w.heap.size ∧ ∀ k, k ≠ r → W.heap[k]? = w.heap[k]? := by
  obtain ⟨W, h1, h2, h3, h4, h5⟩ := stored7 q (.string s0) (.int .i64 i1) (.int .i64 i2) (.string s3) (.string s4) (.string s5) (.slice A9 n9 c9)
  refine ⟨W, h1, h2, R.own hr h4 h5, ?_, h5, h3, h4⟩
  obtain ⟨e', g1, g2⟩ := G
  exact ⟨e', g1.keep (fun k hk _ => ⟨hk, h4 k (hS k hk)⟩) (by omega), g2⟩
set_option maxRecDepth 100000 in
set_option maxHeartbeats 2000000 in
theorem made_any {ts : List T} (w : World) (b : Nat) (A : Option Addr) (c p : Nat) (d : Bool) (h : RS w b ts A c p d) (S : Nat → Prop) (o : List UInt8) (l : List E) (v : Value) (hv : LGot w S l d v) (hd : d = false → E.deepL l ≤ 40) (hS : ∀ k, S k → k ≠ b) (so : ByteArray) (hso : so = str o) :
    Calls Tryz.prog 68 #[.pointer (some ⟨b, 0, none⟩), .string so, v] w fun r w' => ∃ y, r = .returned y ∧ Got w' S (op1 o l) (tooDp d (op1 o l)) y ∧ RS w' b ts A c p (tooDp d (op1 o l)) ∧ But b w w' := by
  subst hso
  have hlt := h.lt
  obtain ⟨W1, hW1, q1, z1, r1⟩ := zero7 w
  have R1 := h.later r1
  obtain ⟨l', A', c', rfl, -⟩ := id hv
  have G1 := ((hv.lim).later r1).whole o []
  have HK := Lib.hid (fun x (hx : Got W1 (fun k => S k ∧ k < w.heap.size) (op1 o l) d x) => kept_any W1 b A c p d R1 (fun k => S k ∧ k < w.heap.size) (op1 o l) x hx (fun hh => by have := hd hh; show E.deepL l + 1 ≤ _; omega) (fun k hk => hS k hk.1))
  have HG1 := Lib.hid G1
  have HW1 := Lib.hid hW1
  generalize str o = so at *
  generalize l'.length = n' at *
  clear hW1 hv hd G1
  go_enter Tryz.func68, Tryz.ntmps68
  go_wp2_with (first | (rw [← HW1.out]))
  refine (HK.out _ HG1.out).mono ?_
  rintro r w3 ⟨y, rfl, g3, R3, b3⟩
  obtain ⟨t0, j1, j2, t3, t4, t5, A9, n9, c9, rfl⟩ := g3.agg
  have q3 := b3.seven q1 (by omega)
  obtain ⟨W4, hW4, q4, R4, G4, b4, z4, o4⟩ := put7 R3 g3 q3 hlt (fun k hk => by have := hk.2; omega)
  have HW4 := Lib.hid hW4
  obtain ⟨k0, k1, k2, k3, k4, k5, k6⟩ := q3.cells
  obtain ⟨f0, f1, f2, f3, f4, f5, f6⟩ := q3.free
  obtain ⟨l0, l1, l2, l3, l4, l5, l6⟩ := q4.cells
  have HR := Lib.hid R4
  have HG := Lib.hid (G4.wide (S' := S) (fun k hk _ => hk.1))
  have HB := Lib.hid ((((Fr.refl b w.heap.size w).below r1 (Nat.le_refl _)).but b3 (by omega)).below (b4 _ (Nat.le_refl _)) (Nat.le_refl _)).end
  clear hW4 q1 q3 q4 R1 R3 R4 G4 g3 b3 b4 r1 o4
  go_wp2_with (first | (rw [← HW4.out]))
  exact bodyPost_ret (v := .agg #[.string t0, .int .i64 j1, .int .i64 j2, .string t3, .string t4, .string t5, .slice A9 n9 c9]) (by simp [results, Tryz.results68, go_sem, l0, l1, l2, l3, l4, l5, l6]) rfl ⟨_, rfl, HG.out, HR.out, HB.out⟩
end Go.Proofs.YthohfegnphocbaaGreatDoor
namespace Go.Proofs.YthohfegnphocbaaGreatDoor
open Go.RowKit
abbrev Rw := E × Option Addr × Nat
def rowCells (r : Rw) : List Value := [.string (str r.1.op), .int .i64 r.1.v.k, .int .i64 r.1.v.i, .string (str r.1.v.s), .string (str r.1.tb), .string (str r.1.nm), .slice r.2.1 r.1.l.length r.2.2]
def flatE (rs : List Rw) : List Value := rs.flatMap rowCells
theorem flatE_len (rs : List Rw) : (flatE rs).length = rs.length * 7 := by
  induction rs with
  | nil => rfl
  | cons a l ih => show (rowCells a ++ flatE l).length = _; rw [List.length_append, ih]; simp [rowCells]; omega
theorem flatE_one (rs : List Rw) : ∀ u ∈ flatE rs, u.oneCell' = true := by
  intro u hu
  obtain ⟨v, _, hv⟩ := List.mem_flatMap.1 hu
  simp [rowCells] at hv
  rcases hv with rfl | rfl | rfl | rfl | rfl | rfl | rfl <;> rfl
theorem flatE_append (xs ys : List Rw) : flatE (xs ++ ys) = flatE xs ++ flatE ys := by unfold flatE; rw [List.flatMap_append]
theorem flatE_get (rs : List Rw) (j t : Nat) (hj : j < rs.length) (ht : t < 7) : (flatE rs)[j * 7 + t]? = (rowCells rs[j])[t]? := by
  induction rs generalizing j with
  | nil => simp at hj
  | cons a l ih =>
    show (rowCells a ++ flatE l)[j * 7 + t]? = _
    cases j with
    | zero => rw [List.getElem?_append_left (by simp [rowCells]; omega)]; simp
    | succ j =>
      rw [List.getElem?_append_right (by simp [rowCells]; omega)]
      rw [show (j + 1) * 7 + t - (rowCells a).length = j * 7 + t by simp [rowCells]; omega, ih j (by simpa using hj)]
      simp
theorem info27 : (Tryz.prog.info? 27).map (fun i => (i.zero, i.size, i.bytes)) = some (some (.agg #[.string ⟨#[]⟩, .int .i64 0, .int .i64 0, .string ⟨#[]⟩, .string ⟨#[]⟩, .string ⟨#[]⟩, .slice none 0 0]), 7, 104) := by kernel_rfl
theorem lcells_of {S : Nat → Prop} {w : World} {g : Nat} {rs : List Rw} (h : ∀ j u, (flatE rs)[j]? = some u → w.cell? ((⟨g, 0, none⟩ : Addr).add j) = some u) (hs : ∀ r ∈ rs, Sub S w r.1 r.2.1 r.2.2) : LCells S w (rs.map (·.1)) g 0 := by
  refine LCells.of fun j hj => ?_
  rw [List.length_map] at hj
  have e := fun t (ht : t < 7) (u : Value) (hu : (rowCells rs[j])[t]? = some u) => h (j * 7 + t) u ((flatE_get rs j t hj ht).trans hu)
  refine ⟨rs[j].2.1, rs[j].2.2, ?_, by rw [List.getElem_map]; exact hs _ (List.getElem_mem hj)⟩
  rw [List.getElem_map]
  have e0 := e 0 (by omega) _ rfl
  have e1 := e 1 (by omega) _ rfl
  have e2 := e 2 (by omega) _ rfl
  have e3 := e 3 (by omega) _ rfl
  have e4 := e 4 (by omega) _ rfl
  have e5 := e 5 (by omega) _ rfl
  have e6 := e 6 (by omega) _ rfl
  rw [WideShapes.add_plain] at e0 e1 e2 e3 e4 e5 e6
  exact ⟨e0, e1, e2, e3, e4, e5, e6⟩
def OwnL (w : World) (B : Nat) (S : Nat → Prop) (l : List E) (d : Bool) (v : Value) : Prop := ∃ rs : List Rw, w.ownsRow B 27 7 v rs.length (flatE rs) ∧ (∀ r ∈ rs, Sub (fun k => S k ∧ v.ownBlock ≠ some k) w r.1 r.2.1 r.2.2) ∧ rs.length = l.length ∧ (d = false → rs.map (·.1) = l)
theorem OwnL.got {w : World} {B : Nat} {S : Nat → Prop} {l : List E} {d : Bool} {v : Value} (h : OwnL w B S l d v) (hS : ∀ k, B ≤ k → S k) : LGot w S l d v := by
  obtain ⟨rs, h1, h2, h3, h4⟩ := h
  have hsub : ∀ r ∈ rs, Sub S w r.1 r.2.1 r.2.2 := fun r hr => (h2 r hr).keep (fun k hk _ => ⟨hk.1, rfl⟩) (Nat.le_refl _)
  rcases h1.2 with ⟨hv, h0⟩ | ⟨g, cap, cur, hv, hg, hgg, hn, hm, hcs, _⟩
  · have : rs = [] := List.eq_nil_of_length_eq_zero h0
    subst this
    exact ⟨[], none, 0, hv, by simp [Sub, op1], fun hd => by rw [← h4 hd]; rfl⟩
  · have hc := h1.cells (g := g) (by rw [hv]; rfl)
    refine ⟨rs.map (·.1), some ⟨g, 0, none⟩, cap, by rw [hv, List.length_map], ?_, h4⟩
    refine ⟨by rw [List.length_map]; exact hn, hm, fun _ => ⟨g, 0, rfl, hS g hg, (Array.getElem?_eq_some_iff.1 hgg).1, lcells_of hc hsub⟩⟩
theorem OwnL.keep {w w' : World} {B : Nat} {S S' : Nat → Prop} {l : List E} {d : Bool} {v : Value} (h : OwnL w B S l d v) (hS : ∀ k, S k → k < w.heap.size → S' k ∧ w'.heap[k]? = w.heap[k]?) (hb : But 0 w w' ∨ ∃ b, b < B ∧ But b w w') (hB : 0 < B) : OwnL w' B S' l d v := by
  obtain ⟨rs, h1, h2, h3, h4⟩ := h
  obtain ⟨b, hbB, hbut⟩ : ∃ b, b < B ∧ But b w w' := by rcases hb with h | h; exact ⟨0, hB, h⟩; exact h
  refine ⟨rs, ?_, fun r hr => (h2 r hr).keep (fun k hk hlt => ⟨⟨(hS k hk.1 hlt).1, hk.2⟩, (hS k hk.1 hlt).2⟩) hbut.size, h3, h4⟩
  refine h1.kept (row := some b) ⟨hbut.os, hbut.tape, hbut.output, hbut.size, fun k hk hkb => hbut.block k hk (fun e => hkb (by rw [e]))⟩ ?_
  cases hv : v.ownBlock with
  | none => exact .inl rfl
  | some g =>
    right
    intro e
    have := (h1.lt g hv).1
    cases e
    omega
theorem OwnL.more {w : World} {B : Nat} {S : Nat → Prop} {l : List E} {d d' : Bool} {v : Value} (h : OwnL w B S l d v) (hd : d' = false → d = false) : OwnL w B S l d' v := by
  obtain ⟨rs, h1, h2, h3, h4⟩ := h
  exact ⟨rs, h1, h2, h3, fun hh => h4 (hd hh)⟩
theorem Got.row {w : World} {S : Nat → Prop} {e : E} {d : Bool} {x : Value} (h : Got w S e d x) : ∃ r : Rw, x = .agg (rowCells r).toArray ∧ Sub S w r.1 r.2.1 r.2.2 ∧ (d = false → r.1 = e) := by
  obtain ⟨e', ⟨A, c, h1, h2⟩, h3⟩ := h
  exact ⟨(e', A, c), h1, h2, h3⟩
theorem ownL_one {w : World} {B : Nat} {S : Nat → Prop} {e : E} {d : Bool} (r : Rw) (hs : Sub S w r.1 r.2.1 r.2.2) (hr : d = false → r.1 = e) (hB : B ≤ w.heap.size) :
    OwnL (w.alloc (.cells (rowCells r).toArray 27)) B S [e] d (.slice (some ⟨w.heap.size, 0, none⟩) 1 1) := by
  refine ⟨[r], ?_, fun q hq => ?_, rfl, fun hd => by simp [hr hd]⟩
  · have := World.ownsRow_lit (base := B) (e := 27) (size := 7) w (rowCells r).toArray 1 hB (by decide) rfl
    simpa [flatE] using this
  · rw [List.mem_singleton] at hq
    subst hq
    refine hs.keep (fun k hk hlt => ⟨⟨hk, ?_⟩, Below.heap_alloc _ _ _ hlt⟩) (by simp)
    intro e
    injection e with e
    simp at e
    omega
theorem ownL_app {w0 w : World} {B : Nat} {S : Nat → Prop} {l : List E} {d : Bool} {v : Value} (h : OwnL w B S l d v) (r : Rw) {e : E} (hs : Sub (fun k => S k ∧ v.ownBlock ≠ some k) w r.1 r.2.1 r.2.2) (hr : d = false → r.1 = e) (hm : l.length ≤ 1000000) (hB : B ≤ w.heap.size) (b : Nat) (hb : But b w0 w) (hB0 : w0.heap.size ≤ B) (H : Nat) (hH : w.heap.size = H) :
    ∃ v' w', (Builtin.append_ #[25, 25] 25 #[v, .slice (some ⟨H, 0, none⟩) 1 1]).run Tryz.prog (w.alloc (.cells (rowCells r).toArray 27)) = .ok v' w' ∧ OwnL w' B S (l ++ [e]) d v' ∧ But b w0 w' ∧ (∀ k, k < w.heap.size → v.ownBlock ≠ some k → w'.heap[k]? = w.heap[k]?) ∧ w.heap.size ≤ w'.heap.size := by
  subst hH
  obtain ⟨i0, hi, hz0, hz1, hz2⟩ := info_parts info27
  obtain ⟨rs, h1, h2, h3, h4⟩ := h
  have h1a := h1.alloc (.cells (rowCells r).toArray 27)
  have hcell : ∀ j u, (flatE [r])[j]? = some u → (w.alloc (.cells (rowCells r).toArray 27)).cell? ((⟨w.heap.size, 0, none⟩ : Addr).add j) = some u := by
    intro j u hu
    rw [WideShapes.add_plain, Lib.cell_of_heap (heap_alloc_new w _)]
    simpa [flatE] using hu
  obtain ⟨v', w', g1, g2, g3, -, g5⟩ := run_append_own_at (P := Tryz.prog) (w.alloc (.cells (rowCells r).toArray 27)) B 25 25 27 i0 _ 7 104 Tryz.underlying25 hi hz0 hz1 hz2 rfl (by decide) v rs.length (flatE rs) h1a ⟨w.heap.size, 0, none⟩ 1 1 (flatE [r]) (by rw [flatE_len]; simp) hcell (flatE_one [r]) (by unfold maxLen; omega) (by omega) (by simp; omega)
  have hsz : (w.alloc (.cells (rowCells r).toArray 27)).heap.size = w.heap.size + 1 := by simp
  have hblk : ∀ k, k < w.heap.size → v.ownBlock ≠ some k → w'.heap[k]? = w.heap[k]? := fun k hk hv => by
    rw [g3.block k (by omega) (fun e => hv e.symm)]
    exact Below.heap_alloc _ _ _ hk
  have hgs := g3.size
  have hnew : ∀ k, k < w.heap.size → v.ownBlock ≠ some k → v'.ownBlock ≠ some k := fun k hk hv => by
    rcases g5 with g5 | g5
    · rw [g5]; exact hv
    · rw [g5, hsz]; intro e; injection e; omega
  refine ⟨v', w', g1, ⟨rs ++ [r], ?_, ?_, by simp [h3], fun hd => by rw [List.map_append, h4 hd]; simp [hr hd]⟩, ?_, hblk, by omega⟩
  · rw [List.length_append, flatE_append]
    exact g2
  · intro q hq
    rcases List.mem_append.1 hq with hq | hq
    · exact (h2 q hq).keep (fun k hk hlt => ⟨⟨hk.1, hnew k hlt hk.2⟩, hblk k hlt hk.2⟩) (by omega)
    · rw [List.mem_singleton] at hq
      subst hq
      exact hs.keep (fun k hk hlt => ⟨⟨hk.1, hnew k hlt hk.2⟩, hblk k hlt hk.2⟩) (by omega)
  · refine ⟨by rw [g3.os]; exact hb.os, by rw [g3.tape]; exact hb.tape, by rw [g3.output]; exact hb.output, by have := hb.size; omega, fun k hk hkb => ?_⟩
    rw [hblk k (by have := hb.size; omega) (fun hv => by have := (h1.lt k hv).1; omega)]
    exact hb.block k hk hkb
end Go.Proofs.YthohfegnphocbaaGreatDoor
namespace Go.Proofs.YthohfegnphocbaaGreatDoor
open Go.RowKit
def Rp (ts : List T) (b : Nat) (A : Option Addr) (c p : Nat) (d : Bool) (w : World) (S : Nat → Prop) (x : X E) (e : Ending) (w' : World) : Prop := (match x with
  | .error q => e = gone (p + q)
  | .ok (a, m) => ∃ y, e = .returned y ∧ Got w' S a (tooDp d a) y ∧ RS w' b ts A c (p + m) (tooDp d a)) ∧ But b w w'
def tooDpL (d : Bool) (l : List E) : Bool := d || decide (40 < E.deepL l)
def LineOk (ts : List T) (v : Nat) : Prop := ∀ (n p : Nat), 1 ≤ n → n ≤ 8 → ts.length - p < v → ∀ (w : World) (b : Nat) (A : Option Addr) (c : Nat) (d : Bool), RS w b ts A c p d →
  Calls Tryz.prog 34 #[.pointer (some ⟨b, 0, none⟩), .int .i64 n] w (Rp ts b A c p d w (fun k => w.heap.size ≤ k) (ln resB n (ts.drop p)))
def posOf (w : World) (b : Nat) : Nat := match w.cell? ⟨b, 1, none⟩ with
  | some (.int _ q) => q.toNat
  | _ => 0
theorem RS.pos {w : World} {b : Nat} {ts : List T} {A : Option Addr} {c p : Nat} {d : Bool} (h : RS w b ts A c p d) : posOf w b = p := by
  unfold posOf
  rw [h.cells.2.1]
  simp
theorem tooDpL_app (d : Bool) (l : List E) (e : E) : tooDpL d (l ++ [e]) = tooDp (tooDpL d l) e := by
  unfold tooDpL tooDp
  rw [deepL_append]
  simp only [E.deepL, Nat.max_zero]
  rcases Nat.lt_or_ge 40 (E.deepL l) with h | h
  · rw [decide_eq_true (show 40 < max (E.deepL l) e.deep by omega), decide_eq_true h]; simp
  · rcases Nat.lt_or_ge 40 e.deep with h' | h'
    · rw [decide_eq_true (show 40 < max (E.deepL l) e.deep by omega), decide_eq_true h']; simp
    · rw [decide_eq_false (show ¬ 40 < max (E.deepL l) e.deep by omega), decide_eq_false (show ¬ 40 < E.deepL l by omega), decide_eq_false (show ¬ 40 < e.deep by omega)]; simp
theorem tooDpL_one (d : Bool) (e : E) : tooDpL d [e] = tooDp d e := by
  unfold tooDpL tooDp
  simp [E.deepL]
def Lp (ts : List T) (b : Nat) (A : Option Addr) (c p : Nat) (d : Bool) (w : World) (x : X (List E)) (e : Ending) (w' : World) : Prop := (match x with
  | .error q => e = gone (p + q)
  | .ok (l, m) => ∃ v, e = .returned v ∧ OwnL w' w.heap.size (fun k => w.heap.size ≤ k) l (tooDpL d l) v ∧ RS w' b ts A c (p + m) (tooDpL d l) ∧ 1 ≤ l.length ∧ l.length ≤ m) ∧ But b w w'
theorem ret_gone {z : Int} {n : Nat} (h : z = n) : Ending.panicked [{ v := .iface 56 (.int .i64 z), recovered := false }] = gone n := by rw [h]; rfl
set_option maxRecDepth 100000 in
set_option maxHeartbeats 4000000 in
theorem list_any {ts : List T} (hT : Toks ts) (v : Nat) (hL : LineOk ts v) (w : World) (b : Nat) (A : Option Addr) (c p : Nat) (d : Bool) (h : RS w b ts A c p d) (hv : ts.length - p < v) :
    Calls Tryz.prog 143 #[.pointer (some ⟨b, 0, none⟩)] w (Lp ts b A c p d w (cls resB (ts.drop p))) := by
  have HT := Lib.hid hT
  have HL := Lib.hid (fun n p h1 h8 h => hL n p h1 h8 h)
  have HL1 := Lib.hid (hL 1 p (by omega) (by omega) hv w b A c d h)
  have hbw := h.lt
  have HE := Lib.hid (cls_eq resB (ts.drop p))
  generalize cls resB (ts.drop p) = xc at *
  generalize hx1 : ln resB 1 (ts.drop p) = x1 at *
  clear hT hL h
  rcases x1 with q | ⟨a, m⟩
  · -- the first one does not go
    have hxc : xc = .error q := by rw [HE.out]; rfl
    subst hxc
    go_enter Tryz.func143, Tryz.ntmps143
    go_wp2_with fail
    refine (HL1.out).mono ?_
    rintro e w1 ⟨rfl, b1⟩
    unfold gone
    go_wp2_with fail
    exact ⟨rfl, rfl, b1⟩
  · have hfit : X (List E) := xc
    go_enter Tryz.func143, Tryz.ntmps143
    go_wp2_with fail
    refine (HL1.out).mono ?_
    rintro e w1 ⟨⟨y, rfl, g1, R1⟩, b1⟩
    obtain ⟨r, rfl, hs, hr⟩ := g1.row
    have ho := ownL_one (B := w.heap.size) r hs hr b1.size
    have r2 := (Below.refl w1.heap.size w1).alloc (Nat.le_refl _) (.cells (rowCells r).toArray 27)
    obtain ⟨W2, hW2⟩ : ∃ W2, W2 = w1.alloc (.cells (rowCells r).toArray 27) := ⟨_, rfl⟩
    rw [← hW2] at ho r2
    have R2 := R1.later r2
    have H2 := Lib.hid R2
    have HO := Lib.hid ho
    have HB2 := Lib.hid (b1.then r2)
    have hz2 : W2.heap.size = w1.heap.size + 1 := by rw [hW2]; simp
    have HX : Hid (xc = seqX (okX () m) fun _ _ => seqX (tl resB (ts.drop (p + m))) fun ys _ => okX ([a] ++ ys) 0) := by
      rw [HE.out]
      show seqX (okX a m) _ = _
      rw [seqX_unit, List.drop_drop]
      rfl
    have hm1 : 1 ≤ m := ln_pos resB (by omega) (by omega) hx1
    simp only [rowCells] at hW2 ⊢
    have HW2 := Lib.hid hW2
    have hsz := b1.size
    have HWB := Lib.hid hsz
    clear hs hr ho r2 R1 R2 g1 b1 hW2 HE HL1 hz2 hsz hx1
    go_wp2_with (rw [← HW2.out])
    go_loopw [3] (fun lv wr => ∃ (xs : List E) (M : Nat) (u : Value), u = lv ∧ 1 ≤ M ∧ 1 ≤ xs.length ∧ xs.length ≤ M ∧ Hid (RS wr b ts A c (p + M) (tooDpL d xs)) ∧ Hid (OwnL wr w.heap.size (fun k => w.heap.size ≤ k) xs (tooDpL d xs) u) ∧ Hid (But b w wr) ∧ Hid (xc = seqX (okX () M) fun _ _ => seqX (tl resB (ts.drop (p + M))) fun ys _ => okX (xs ++ ys) 0)) (fun _ wr => ts.length - posOf wr b)
    case atStart =>
      refine ⟨[a], m, _, rfl, hm1, Nat.le_refl _, hm1, ?_, ?_, HB2.out, HX.out⟩
      · rw [tooDpL_one]; exact H2.out
      · rw [tooDpL_one]; exact HO.out
    case round =>
      obtain ⟨xs, M, u, rfl, hM, hx1, hxM, HR, HW, HB, HXC⟩ := hrel
      have hz := HB.out.size
      have hlen := HT.out.len
      have hp := HR.out.hp
      have r3 := (Below.refl wr.heap.size wr).alloc (Nat.le_refl _) (.cells #[.string ⟨#[44]⟩, .string ⟨#[41]⟩] 9)
      have hbox := heap_alloc_new wr (.cells #[.string ⟨#[44]⟩, .string ⟨#[41]⟩] 9)
      obtain ⟨W3, hW3⟩ : ∃ W3, W3 = wr.alloc (.cells #[.string ⟨#[44]⟩, .string ⟨#[41]⟩] 9) := ⟨_, rfl⟩
      rw [← hW3] at r3 hbox
      have hz3 : W3.heap.size = wr.heap.size + 1 := by rw [hW3]; simp
      have hM3 : MAt W3 wr.heap.size [⟨#[44]⟩, ⟨#[41]⟩] := by
        refine ⟨by omega, fun j hj => ?_⟩
        rw [Lib.cell_of_heap hbox]
        have hj2 : j < 2 := hj
        have : j = 0 ∨ j = 1 := by omega
        rcases this with rfl | rfl <;> rfl
      have R3 := HR.out.later r3
      have HWant := Lib.hid (want_any HT.out W3 b A c (p + M) (tooDpL d xs) R3 5 [⟨#[44]⟩, ⟨#[41]⟩] wr.heap.size hM3 (by omega) (by simp) 2 rfl (by
        intro m hm
        right
        simp at hm
        rcases hm with rfl | rfl <;> exact ⟨rfl, rfl⟩))
      have HW3 := Lib.hid hW3
      have HB3 := Lib.hid (HB.out.then r3)
      have HO3 := Lib.hid (HW.out.keep (S' := fun k => w.heap.size ≤ k) (fun k hk hlt => ⟨hk, r3.block k hlt⟩) (.inr ⟨b, hbw, .of r3 (Nat.le_refl _)⟩) (by omega))
      simp only [List.find?_cons, List.find?_nil] at HWant
      have htl : tl resB (ts.drop (p + M)) = if isS [44] (ts.drop (p + M)) then seqX (okX () 1) fun _ _ => cls resB (ts.drop (p + M + 1)) else seqX (needX [41] (ts.drop (p + M))) fun _ _ => okX [] 0 := by unfold tl; rw [List.drop_drop]
      have HTL := Lib.hid htl
      have hpos := HR.out.pos
      clear hW3 R3 r3 hbox hM3 htl HW HR HB
      have h44 : ∀ q, isS (⟨#[44]⟩ : ByteArray).data.toList q = isS [44] q := fun _ => rfl
      have h41 : ∀ q, isS (⟨#[41]⟩ : ByteArray).data.toList q = isS [41] q := fun _ => rfl
      rw [h44, h41] at HWant
      clear h44 h41
      cases hc : isS [44] (ts.drop (p + M))
      · have hxc := HXC.out
        rw [HTL.out, hc] at hxc
        simp only [Bool.false_eq_true, if_false] at hxc
        rw [hc] at HWant
        unfold needX at hxc
        cases hc2 : isS [41] (ts.drop (p + M))
        · rw [hc2] at hxc HWant
          simp only at HWant
          have hxe : xc = .error M := by rw [hxc]; rfl
          subst hxe
          clear HXC HTL hc hc2 hxc
          go_wp2_with (rw [← HW3.out])
          refine (HWant.out).mono ?_
          rintro e w4 ⟨⟨rfl, R4⟩, b4⟩
          unfold gone
          have HB4 := Lib.hid (HB3.out.trans b4)
          clear b4 R4
          go_wp2_with fail
          exact ⟨rfl, rfl, HB4.out⟩
        · rw [hc2] at hxc HWant
          simp only at HWant
          have hxe : xc = .ok (xs, M + 1) := by rw [hxc]; simp [seqX, okX]
          subst hxe
          clear HXC HTL hc hc2 hxc
          go_wp2_with (rw [← HW3.out])
          refine (HWant.out).mono ?_
          rintro e w4 ⟨⟨rfl, R4⟩, b4⟩
          have HB4 := Lib.hid (HB3.out.trans b4)
          have HO4 := Lib.hid (HO3.out.keep (S' := fun k => w.heap.size ≤ k) (fun k hk hlt => ⟨hk, b4.block k hlt (by omega)⟩) (.inr ⟨b, hbw, b4⟩) (by omega))
          have HR4 := Lib.hid R4
          clear b4 R4 HO3 HB3
          go_wp2_with fail
          go_ret
          exact ⟨⟨_, rfl, HO4.out, HR4.out, hx1, by omega⟩, HB4.out⟩
      · have hxc := HXC.out
        rw [HTL.out, hc] at hxc
        simp only [if_true] at hxc
        rw [hc] at HWant
        simp only at HWant
        have HLX := Lib.hid (HL.out 1 (p + M + 1) (by omega) (by omega))
        have hce := cls_eq resB (ts.drop (p + M + 1))
        rw [hce] at hxc
        generalize hy : ln resB 1 (ts.drop (p + M + 1)) = x2 at *
        have hx2 : ∀ q, x2 = .error q → xc = .error (M + 1 + q) := fun q hq => by
          rw [hxc, hq]; simp [seqX, okX, Nat.add_assoc]
        have hx3 : ∀ a2 m2, x2 = .ok (a2, m2) → 1 ≤ m2 ∧ xc = seqX (okX () (M + 1 + m2)) fun _ _ => seqX (tl resB (ts.drop (p + (M + 1 + m2)))) fun ys _ => okX ((xs ++ [a2]) ++ ys) 0 := fun a2 m2 hq => by
          subst hq
          refine ⟨ln_pos resB (by omega) (by omega) hy, ?_⟩
          rw [hxc]
          unfold seqX okX
          dsimp only
          rw [List.drop_drop, show p + M + 1 + m2 = p + (M + 1 + m2) by omega]
          rcases tl resB (ts.drop (p + (M + 1 + m2))) with q | ⟨ys, q⟩
          · simp [Nat.add_assoc]
          · simp [Nat.add_assoc]
        have HX2 := Lib.hid hx2
        have HX3 := Lib.hid hx3
        clear HXC HTL hc hxc hx2 hx3 hce hy
        go_wp2_with (rw [← HW3.out])
        refine (HWant.out).mono ?_
        rintro e w4 ⟨⟨rfl, R4⟩, b4⟩
        have HC4 := Lib.hid (HLX.out (by have := R4.hp; omega) w4 b A c (tooDpL d xs) R4)
        have hp4 := R4.hp
        have HB4 := Lib.hid (HB3.out.trans b4)
        have hb4z := b4.size
        have HO4 := Lib.hid (HO3.out.keep (S' := fun k => w.heap.size ≤ k) (fun k hk hlt => ⟨hk, b4.block k hlt (by omega)⟩) (.inr ⟨b, hbw, b4⟩) (by omega))
        clear b4 R4 HO3 HB3 HWant HLX
        go_wp2_with fail
        refine (HC4.out).mono ?_
        rcases x2 with q | ⟨a2, m2⟩
        · rintro e w5 ⟨rfl, b5⟩
          have hxe := HX2.out q rfl
          subst hxe
          have HB5 := Lib.hid (HB4.out.trans b5)
          unfold gone
          clear b5 HX2 HX3
          go_wp2_with fail
          exact ⟨rfl, ret_gone (by omega), HB5.out⟩
        · rintro e w5 ⟨⟨y, rfl, g5, R5⟩, b5⟩
          obtain ⟨hm2, hxe⟩ := HX3.out a2 m2 rfl
          obtain ⟨r, rfl, hs, hr⟩ := g5.row
          have hp5 := R5.hp
          have hb5z := b5.size
          have hw4 := HB4.out.size
          have HO5 := HO4.out.keep (S' := fun k => w.heap.size ≤ k) (fun k hk hlt => ⟨hk, b5.block k hlt (by omega)⟩) (.inr ⟨b, hbw, b5⟩) (by omega)
          have hown : ∀ k, u.ownBlock = some k → k < w4.heap.size := fun k hk => by
            obtain ⟨rs, h1, -⟩ := HO4.out
            exact (h1.lt k hk).2
          have HO6 := HO5.more (d' := tooDp (tooDpL d xs) a2) (by unfold tooDp; simp; intro h _; exact h)
          have hs6 : Sub (fun k => w.heap.size ≤ k ∧ u.ownBlock ≠ some k) w5 r.1 r.2.1 r.2.2 := hs.keep (fun k hk _ => ⟨⟨by omega, fun e => by have := hown k e; omega⟩, rfl⟩) (Nat.le_refl _)
          have hb45 := HB4.out.trans b5
          obtain ⟨v6, w6, r6, ho6, hb6, hk6, hz6⟩ := ownL_app HO6 r (e := a2) hs6 hr (by omega) (by omega) b (HB4.out.trans b5) (Nat.le_refl _) w5.heap.size rfl
          rw [← tooDpL_app] at ho6 R5 HO6
          have r5 := (Below.refl w5.heap.size w5).alloc (Nat.le_refl _) (.cells (rowCells r).toArray 27)
          have R6 : RS w6 b ts A c (p + M + 1 + m2) (tooDpL d (xs ++ [a2])) := by
            refine ⟨(hk6 b (by omega) ?_).trans R5.box, ?_, R5.hp⟩
            · intro e
              obtain ⟨rs, h1, -⟩ := HO4.out
              have := (h1.lt b e).1
              omega
            · refine R5.toks.below ⟨hb6.os.trans hb45.os.symm, hb6.tape.trans hb45.tape.symm, hb6.output.trans hb45.output.symm, hz6, fun k hk => hk6 k (by omega) ?_⟩
              intro e
              obtain ⟨rs, h1, -⟩ := HO4.out
              have := (h1.lt k e).1
              omega
          simp only [rowCells] at r6 ⊢
          have H6 := Lib.hid R6
          have H7 := Lib.hid ho6
          have H8 := Lib.hid hb6
          have H9 := Lib.hid hxe
          have hp6 := R6.hp
          have hpos6 := R6.pos
          clear HX2 HX3 hs hr g5 b5 hs6 hk6 hb6 ho6 R6 hxe HO6 HO5 hown r5 R5 hb45
          go_wp2_with (first | (at_builtin; refine Lib.wpList_append_run_sl _ rfl _ _ 25 rfl _ _ rfl rfl r6 ?_))
          go_roundw
          case measure => rw [hpos6, hpos]; omega
          case rel => exact ⟨xs ++ [a2], M + 1 + m2, _, rfl, by omega, by simp, by simp; omega, by have := H6.out; rwa [show p + M + 1 + m2 = p + (M + 1 + m2) by omega] at this, H7, H8, H9⟩
end Go.Proofs.YthohfegnphocbaaGreatDoor
namespace Go.Proofs.YthohfegnphocbaaGreatDoor
open Go.RowKit
set_option maxRecDepth 100000 in
set_option maxHeartbeats 2000000 in
theorem name_any {ts : List T} (hT : Toks ts) (w : World) (b : Nat) (A : Option Addr) (c p : Nat) (d : Bool) (h : RS w b ts A c p d) :
    Calls Tryz.prog 188 #[.pointer (some ⟨b, 0, none⟩)] w fun e w' => (match nameX resB (ts.drop p) with
      | .error q => e = gone (p + q)
      | .ok (n, m) => e = .returned (.string (str n)) ∧ RS w' b ts A c (p + m) d) ∧ But b w w' := by
  have hp := h.hp
  have hbw0 := h.lt
  have hlen := hT.len
  obtain ⟨c0, c1, c2, f1, f2⟩ := h.cells
  obtain ⟨g, off, rfl, hg, hc⟩ := h.toks (by omega)
  obtain ⟨t0, t1, t2, t3⟩ := hc p hp
  obtain ⟨b2, hb2, b1, hb1⟩ := readT w ts[p]
  obtain ⟨z0, z1, z2, z3⟩ := b1.zcells
  obtain ⟨y0, y1, y2, y3⟩ := b1.free
  obtain ⟨u0, u1, u2, u3⟩ := b2.cells
  have hR := h.later hb2
  obtain ⟨v0, v1, v2, v3, v4⟩ := hR.cells
  have hR1 := h.later hb1
  obtain ⟨d0, d1, d2, d3, d4⟩ := hR1.cells
  have hpz : (p : Int) < (ts.length : Int) := by omega
  have e0 := (hb1.cell (p := ⟨g, off + p * 4, none⟩) (by have := h.lt; show g < _; omega)).trans t0
  have e1 := (hb1.cell (p := ⟨g, off + p * 4 + 1, none⟩) (by have := h.lt; show g < _; omega)).trans t1
  have e2 := (hb1.cell (p := ⟨g, off + p * 4 + 2, none⟩) (by have := h.lt; show g < _; omega)).trans t2
  have e3 := (hb1.cell (p := ⟨g, off + p * 4 + 3, none⟩) (by have := h.lt; show g < _; omega)).trans t3
  have HR := Lib.hid hR
  have HB := Lib.hid hb2
  obtain ⟨hk1, hk2⟩ := hT.here hp
  have hn := fun hh => hT.next hp hh
  rw [here_drop hp] at hk1 hk2 hn
  have hX : nameX resB (ts.drop p) = if isNm resB (ts.drop p) then okX ts[p].s 1 else badX 0 := by unfold nameX; rw [here_drop hp]
  have hI : isNm resB (ts.drop p) = (decide (ts[p].k = 1) && !resB ts[p].s) := by
    unfold isNm; rw [here_drop hp]
    by_cases hh : ts[p].k = 1 <;> simp [hh]
  rw [hX, hI]
  have HN := Lib.hid hn
  generalize ts[p] = t at *
  clear h hR hR1 b1 b2 hb1 hb2 hc hT hp hX hI hn
  obtain ⟨tk, tl, ti, tp⟩ := t
  simp only at *
  by_cases hk : tk = 1
  · subst hk
    have hw : Wrd tl := hk1.1 rfl
    have hnm : nameB tl = !resB tl := by
      apply bool_iff
      rw [name_iff, Bool.not_eq_true']
      constructor
      · rintro ⟨-, -, -, h4, -⟩; exact h4
      · intro h4
        refine ⟨fun e => by rw [e] at hw; exact absurd hw.1 (by decide), hw.2.2.1, ?_, h4, fun x hx => ⟨hw.2.1 x hx, low_all.1 hw.2.2.2 x hx⟩⟩
        have := hw.1
        cases hts : tl with
        | nil => rfl
        | cons a r =>
          rw [hts] at this
          exact isLet_noDig this
    have HI := Lib.hid (fun w => isName_any (str tl) w (by have := hw.2.2.1; rw [str_size]; omega))
    rw [str_list, hnm] at HI
    have hpn := HN.out (by decide)
    rw [decide_eq_true rfl, Bool.true_and]
    generalize hrb : resB tl = rb at *
    generalize hts : str tl = tx at *
    have hbw : b < w.heap.size := hbw0
    have hwz : w.heap.size < (w.alloc (.cells #[.int .i64 1, .string tx, .int .i64 ti, .int .i64 tp] 51)).drew.heap.size := by show _ < (w.alloc _).heap.size; simp
    clear hk1 hk2 hw hnm HN hrb
    cases rb
    · simp only [Bool.not_false, if_true, okX]
      go_enter Tryz.func188, Tryz.ntmps188
      go_wp2_with fail
      go_region
      generalize (w.alloc (.cells #[.int .i64 1, .string tx, .int .i64 ti, .int .i64 tp] 51)).drew = W at *
      go_wp2_with fail
      refine (HI.out _).mono ?_
      rintro e w3 ⟨rfl, b3⟩
      have R3 := HR.out.later b3
      obtain ⟨-, k1, -, k3, -⟩ := R3.cells
      have HR3 := Lib.hid (R3.at hpn)
      have HB3 := Lib.hid (((But.of (b := b) HB.out (Nat.le_refl _)).then b3).setCell 1 (.int .i64 (p + 1 : Nat)))
      have u1' := (b3.cell (p := ⟨w.heap.size, 1, none⟩) hwz).trans u1
      have u1x := (World.cell?_setCell_other w3 ⟨b, 1, none⟩ ⟨w.heap.size, 1, none⟩ (.int .i64 ((p : Int) + 1)) (by simp <;> omega)).trans u1'
      clear R3 b3
      go_wp2_with fail
      go_ret
      subst hts
      exact ⟨⟨rfl, HR3.out⟩, HB3.out⟩
    · simp only [Bool.not_true, Bool.false_eq_true, if_false, badX, Nat.add_zero]
      go_enter Tryz.func188, Tryz.ntmps188
      go_wp2_with fail
      go_region
      generalize (w.alloc (.cells #[.int .i64 1, .string tx, .int .i64 ti, .int .i64 tp] 51)).drew = W at *
      go_wp2_with fail
      refine (HI.out _).mono ?_
      rintro e w3 ⟨rfl, b3⟩
      have R3 := HR.out.later b3
      obtain ⟨-, k1, -, k3, -⟩ := R3.cells
      have HB3 := Lib.hid ((But.of (b := b) HB.out (Nat.le_refl _)).then b3)
      clear R3 b3
      go_wp2_with fail
      exact ⟨rfl, rfl, HB3.out⟩
  · have hkf : (tk == 1) = false := by simpa using hk
    rw [decide_eq_false hk, Bool.false_and]
    simp only [Bool.false_eq_true, if_false, badX, Nat.add_zero]
    generalize hts : str tl = tx at *
    clear hk1 hk2 HN hts
    go_enter Tryz.func188, Tryz.ntmps188
    go_wp2_with fail
    go_region
    generalize (w.alloc (.cells #[.int .i64 tk, .string tx, .int .i64 ti, .int .i64 tp] 51)).drew = W at *
    go_wp2_with fail
    exact ⟨rfl, rfl, .of HB.out (Nat.le_refl _)⟩
end Go.Proofs.YthohfegnphocbaaGreatDoor
