/- The reference's reader in memory: its tokens, its place, whether it has given up; it may stand first in a larger box. No condition. -/
import Derived.Test.YthohfegnphocbaaGreatDoorQ15
import Derived.Test.YthohfegnphocbaaGreatDoorQ08
import Derived.Test.YthohfegnphocbaaGreatDoorQ39
import Derived.Test.YthohfegnphocbaaGreatDoorQ11
import Derived.Test.YthohfegnphocbaaGreatDoorQ54
import Derived.BigQuiet
import Derived.Deep.QuietTactic
import Derived.Test.YthohfegnphocbaaGreatDoorQ16
import Derived.Test.YthohfegnphocbaaGreatDoorQ29
import Derived.Test.YthohfegnphocbaaGreatDoorQ12
namespace Go.Proofs.YthohfegnphocbaaGreatDoor
open Go.RowKit
structure RR (w : World) (b : Nat) (ts : List T) (A : Option Addr) (c : Nat) (p : Nat) (d : Bool) (t : TypeId) (ex : List Value) : Prop where
  box : w.heap[b]? = some (.cells (.slice A ts.length c :: .int .i64 p :: .bool d :: ex).toArray t (0, 0))
  toks : TAt w b A ts
  hp : p < ts.length
section
variable {w w' : World} {b : Nat} {ts : List T} {A : Option Addr} {c p : Nat} {d : Bool} {t : TypeId} {ex : List Value}
theorem RR.lt (h : RR w b ts A c p d t ex) : b < w.heap.size := (Array.getElem?_eq_some_iff.1 h.box).1
theorem RR.cells (h : RR w b ts A c p d t ex) : w.cell? ⟨b, 0, none⟩ = some (.slice A ts.length c) ∧ w.cell? ⟨b, 1, none⟩ = some (.int .i64 p) ∧ w.cell? ⟨b, 2, none⟩ = some (.bool d) ∧ w.frozen? ⟨b, 1, none⟩ = false ∧ w.frozen? ⟨b, 2, none⟩ = false :=
  ⟨by rw [Lib.cell_of_heap h.box]; rfl, by rw [Lib.cell_of_heap h.box]; rfl, by rw [Lib.cell_of_heap h.box]; rfl, Lib.frozen_of_heap h.box 1, Lib.frozen_of_heap h.box 2⟩
theorem RR.later (h : RR w b ts A c p d t ex) (hb : Below w.heap.size w w') : RR w' b ts A c p d t ex :=
  ⟨(hb.block b h.lt).trans h.box, h.toks.below (hb.mono (Nat.le_of_lt h.lt)), h.hp⟩
theorem RR.at (h : RR w b ts A c p d t ex) {q : Nat} (hq : q < ts.length) : RR (w.setCell ⟨b, 1, none⟩ (.int .i64 q)) b ts A c q d t ex := by
  refine ⟨?_, h.toks.below ((Below.refl b w).setCell (p := ⟨b, 1, none⟩) (Nat.le_refl _) _), hq⟩
  have := heap_set_same (.int .i64 q) (o := 1) h.box
  simpa only [List.setIfInBounds_toArray, List.set_cons_zero, List.set_cons_succ] using this
theorem RR.bad (h : RR w b ts A c p d t ex) (d' : Bool) : RR (w.setCell ⟨b, 2, none⟩ (.bool d')) b ts A c p d' t ex := by
  refine ⟨?_, h.toks.below ((Below.refl b w).setCell (p := ⟨b, 2, none⟩) (Nat.le_refl _) _), h.hp⟩
  have := heap_set_same (.bool d') (o := 2) h.box
  simpa only [List.setIfInBounds_toArray, List.set_cons_zero, List.set_cons_succ] using this
theorem RR.own {r : Nat} (h : RR w b ts A c p d t ex) (hb : b < r) (o : ∀ k, k ≠ r → w'.heap[k]? = w.heap[k]?) (hB : ∀ B, B ≤ r → Below B w w') : RR w' b ts A c p d t ex :=
  ⟨(o b (by omega)).trans h.box, h.toks.below (hB b (by omega)), h.hp⟩
theorem RR.pos (h : RR w b ts A c p d t ex) : posOf w b = p := by
  unfold posOf
  rw [h.cells.2.1]
  simp
end
def xd {α : Type} (d : Bool) (x : X α) : X α := if d then badX 0 else x
theorem xd_t {α : Type} (x : X α) : xd true x = badX 0 := rfl
theorem xd_f {α : Type} (x : X α) : xd false x = x := rfl
def endP {α : Type} (p : Nat) : X α → Nat
  | .error q => p + q
  | .ok (_, m) => p + m
def endD {α : Type} : X α → Bool
  | .error _ => true
  | .ok _ => false
def endV (x : X E) : E := match x with
  | .error _ => e0
  | .ok (a, _) => a
def Rq (ts : List T) (b : Nat) (A : Option Addr) (c p : Nat) (t : TypeId) (ex : List Value) (w : World) (S : Nat → Prop) (x : X E) (e : Ending) (w' : World) : Prop :=
  (∃ y, e = .returned y ∧ Got w' S (endV x) (endD x) y ∧ RR w' b ts A c (endP p x) (endD x) t ex) ∧ But b w w'
end Go.Proofs.YthohfegnphocbaaGreatDoor
namespace Go.Proofs.YthohfegnphocbaaGreatDoor
open Go.RowKit
set_option maxRecDepth 100000 in
set_option maxHeartbeats 2000000 in
theorem rHere {ts : List T} (hlen : ts.length ≤ 5000) (w : World) (b : Nat) (A : Option Addr) (c p : Nat) (d : Bool) (t : TypeId) (ex : List Value) (h : RR w b ts A c p d t ex) :
    Calls Tryz.prog 113 #[.pointer (some ⟨b, 0, none⟩)] w fun e w' => e = .returned (here (ts.drop p)).val ∧ Below w.heap.size w w' := by
  have hp := h.hp
  rw [here_drop hp]
  have b1 := zbox w
  have B1 := (Below.refl w.heap.size w).alloc (Nat.le_refl _) (.cells #[.int .i64 0, .string ⟨#[]⟩, .int .i64 0, .int .i64 0] 51)
  obtain ⟨W1, hW1⟩ : ∃ W1, W1 = w.alloc (.cells #[.int .i64 0, .string ⟨#[]⟩, .int .i64 0, .int .i64 0] 51) := ⟨_, rfl⟩
  rw [← hW1] at b1 B1
  have R1 := h.later B1
  obtain ⟨c0, c1, c2, f1, f2⟩ := R1.cells
  obtain ⟨g, off, rfl, hg, hc⟩ := R1.toks (by omega)
  obtain ⟨t0, t1, t2, t3⟩ := hc p hp
  obtain ⟨z0, z1, z2, z3⟩ := b1.zcells
  obtain ⟨y0, y1, y2, y3⟩ := b1.free
  have hpz : (p : Int) < (ts.length : Int) := by omega
  have hp0 : ¬ (p : Int) < 0 := by omega
  have hp1 : ¬ (ts.length : Int) ≤ (p : Int) := by omega
  have hlt := h.lt
  have HB := Lib.hid B1
  have HW := Lib.hid hW1
  have HT := Lib.hid b1
  generalize ts[p] = u at *
  obtain ⟨uk, us, ui, up⟩ := u
  simp only at t0 t1 t2 t3
  clear h R1 hc B1 hW1 b1
  go_enter Tryz.func113, Tryz.ntmps113
  go_wp2_with (rw [← HW.out])
  go_quiet (fail)
  go_wp2_with fail
  go_region
  go_wp2_with fail
  obtain ⟨k0, k1, k2, k3⟩ := kept4 (show TBox (W1.drewN (nq + 1)) w.heap.size zT from HT.out) ⟨uk, us, ui, up⟩
  exact bodyPost_ret (v := .agg #[.int .i64 uk, .string (str us), .int .i64 ui, .int .i64 up]) (by simp [results, Tryz.results113, go_sem, k0, k1, k2, k3]) rfl ⟨rfl, Below.set4 (HB.out.trans (show Below w.heap.size W1 (W1.drewN (nq + 1)) from ⟨rfl, rfl, rfl, Nat.le_refl _, fun _ _ => rfl⟩)) (Nat.le_refl _) _ _ _ _⟩
def isD (d : Bool) (m : ByteArray) (l : List T) : Bool := !d && isS m.data.toList l
set_option maxRecDepth 100000 in
set_option maxHeartbeats 2000000 in
theorem rIs {ts : List T} (hlen : ts.length ≤ 5000) (m : ByteArray) (w : World) (b : Nat) (A : Option Addr) (c p : Nat) (d : Bool) (t : TypeId) (ex : List Value) (h : RR w b ts A c p d t ex) :
    Calls Tryz.prog 110 #[.pointer (some ⟨b, 0, none⟩), .string m] w fun e w' => e = .returned (.bool (isD d m (ts.drop p))) ∧ Below w.heap.size w w' := by
  have HH := Lib.hid (rHere hlen w b A c p d t ex h)
  have HR := Lib.hid (fun w' (hb : Below w.heap.size w w') => h.later hb)
  have he : isD d m (ts.drop p) = (!d && (((here (ts.drop p)).k == 1 || (here (ts.drop p)).k == 5) && ((str (here (ts.drop p)).s).toList == m.toList))) := by
    unfold isD isS
    have e : ((str (here (ts.drop p)).s).toList == m.toList) = ((here (ts.drop p)).s == m.data.toList) := by rw [Lib.toList_data, Lib.toList_data, str_list]
    rw [e]
  rw [he]
  clear he h
  generalize here (ts.drop p) = u at *
  obtain ⟨uk, us, ui, up⟩ := u
  simp only [T.val] at *
  generalize str us = x at *
  go_enter Tryz.func110, Tryz.ntmps110
  go_wp2_with fail
  refine (HH.out).mono ?_
  rintro r w2 ⟨rfl, b2⟩
  have B2 := Lib.hid (bthen b2 ((Below.refl w2.heap.size w2).alloc (Nat.le_refl _) (.cells #[.int .i64 uk, .string x, .int .i64 ui, .int .i64 up] 51)))
  have T2 : (w2.alloc (.cells #[.int .i64 uk, .string x, .int .i64 ui, .int .i64 up] 51)).heap[w2.heap.size]? = some (.cells #[.int .i64 uk, .string x, .int .i64 ui, .int .i64 up] 51 (0, 0)) := heap_alloc_new w2 _
  obtain ⟨W2, hW2⟩ : ∃ W2, W2 = w2.alloc (.cells #[.int .i64 uk, .string x, .int .i64 ui, .int .i64 up] 51) := ⟨_, rfl⟩
  rw [← hW2] at B2 T2
  obtain ⟨c0, c1, c2, f1, f2⟩ := (HR.out _ B2.out).cells
  have t0 : W2.cell? ⟨w2.heap.size, 0, none⟩ = some (.int .i64 uk) := by rw [Lib.cell_of_heap T2]; rfl
  have t1 : W2.cell? ⟨w2.heap.size, 1, none⟩ = some (.string x) := by rw [Lib.cell_of_heap T2]; rfl
  have HW2 := Lib.hid hW2
  clear hW2 T2 HR HH b2
  cases d
  · by_cases hk : uk = 1
    · subst hk
      go_wp2_with (rw [← HW2.out])
      go_ret
      exact ⟨rfl, B2.out⟩
    · have hk1 : (uk == 1) = false := by simpa using hk
      by_cases hk5 : uk = 5
      · subst hk5
        go_wp2_with (rw [← HW2.out])
        go_ret
        exact ⟨rfl, B2.out⟩
      · have hk2 : (uk == 5) = false := by simpa using hk5
        go_wp2_with (rw [← HW2.out])
        go_ret
        exact ⟨ret_bool (by rw [hk1, hk2]; simp), B2.out⟩
  · go_wp2_with (rw [← HW2.out])
    go_ret
    exact ⟨rfl, B2.out⟩
def stepP (z : Bool) (p : Nat) : Nat := if z then p + 1 else p
theorem isD_next {ts : List T} (hT : Toks ts) {p : Nat} (hp : p < ts.length) {d : Bool} {m : ByteArray} (h : isD d m (ts.drop p) = true) : p + 1 < ts.length := by
  unfold isD at h
  rw [Bool.and_eq_true] at h
  exact hT.next hp (isS_kind h.2)
set_option maxRecDepth 100000 in
set_option maxHeartbeats 2000000 in
theorem rEat {ts : List T} (hT : Toks ts) (m : ByteArray) (w : World) (b : Nat) (A : Option Addr) (c p : Nat) (d : Bool) (t : TypeId) (ex : List Value) (h : RR w b ts A c p d t ex) :
    Calls Tryz.prog 69 #[.pointer (some ⟨b, 0, none⟩), .string m] w fun e w' => e = .returned (.bool (isD d m (ts.drop p))) ∧ RR w' b ts A c (stepP (isD d m (ts.drop p)) p) d t ex ∧ But b w w' := by
  have hp := h.hp
  have hlen := hT.len
  have HI := Lib.hid (rIs hT.len m w b A c p d t ex h)
  have HR := Lib.hid (fun w' (hb : Below w.heap.size w w') => h.later hb)
  have HN := Lib.hid (fun hh => isD_next hT hp (d := d) (m := m) hh)
  generalize isD d m (ts.drop p) = z at *
  clear h hT
  go_enter Tryz.func69, Tryz.ntmps69
  go_wp2_with fail
  refine (HI.out).mono ?_
  rintro r w2 ⟨rfl, b2⟩
  have R2 := Lib.hid (HR.out _ b2)
  have B2 := Lib.hid (But.of (b := b) b2 (Nat.le_refl _))
  obtain ⟨c0, c1, c2, f1, f2⟩ := R2.out.cells
  clear b2 HR HI
  cases z
  · go_wp2_with fail
    go_ret
    exact ⟨rfl, R2.out, B2.out⟩
  · have hn := HN.out rfl
    go_wp2_with fail
    go_ret
    exact ⟨rfl, R2.out.at hn, B2.out.setCell _ _⟩
set_option maxRecDepth 100000 in
set_option maxHeartbeats 2000000 in
theorem rNeed {ts : List T} (hT : Toks ts) (m : ByteArray) (w : World) (b : Nat) (A : Option Addr) (c p : Nat) (d : Bool) (t : TypeId) (ex : List Value) (h : RR w b ts A c p d t ex) :
    Calls Tryz.prog 111 #[.pointer (some ⟨b, 0, none⟩), .string m] w fun e w' => e = .returned (.tuple #[]) ∧ RR w' b ts A c (stepP (isD d m (ts.drop p)) p) (!isD d m (ts.drop p)) t ex ∧ But b w w' := by
  have HI := Lib.hid (rEat hT m w b A c p d t ex h)
  have hd : isD d m (ts.drop p) = true → d = false := fun hh => by unfold isD at hh; rw [Bool.and_eq_true] at hh; simpa using hh.1
  have HD := Lib.hid hd
  generalize isD d m (ts.drop p) = z at *
  clear h hT hd
  go_enter Tryz.func111, Tryz.ntmps111
  go_wp2_with fail
  refine (HI.out).mono ?_
  rintro r w2 ⟨rfl, r2, b2⟩
  have R2 := Lib.hid r2
  have B2 := Lib.hid b2
  obtain ⟨c0, c1, c2, f1, f2⟩ := R2.out.cells
  clear b2 r2 HI
  cases z
  · go_wp2_with fail
    go_end0
    exact ⟨rfl, R2.out.bad true, B2.out.setCell _ _⟩
  · have hd := HD.out rfl
    subst hd
    go_wp2_with fail
    go_end0
    exact ⟨rfl, R2.out, B2.out⟩
def nameD (d : Bool) (l : List T) : List UInt8 := if !d && isNm resB l then (here l).s else []
set_option maxRecDepth 100000 in
set_option maxHeartbeats 2000000 in
theorem rName {ts : List T} (hT : Toks ts) (w : World) (b : Nat) (A : Option Addr) (c p : Nat) (d : Bool) (t : TypeId) (ex : List Value) (h : RR w b ts A c p d t ex) :
    Calls Tryz.prog 117 #[.pointer (some ⟨b, 0, none⟩)] w fun e w' => e = .returned (.string (str (nameD d (ts.drop p)))) ∧ RR w' b ts A c (stepP (!d && isNm resB (ts.drop p)) p) (!(!d && isNm resB (ts.drop p))) t ex ∧ But b w w' := by
  have hp := h.hp
  have hlen := hT.len
  have HH := Lib.hid (rHere hT.len w b A c p d t ex h)
  have HR := Lib.hid (fun w' (hb : Below w.heap.size w w') => h.later hb)
  have hn : (!d && isNm resB (ts.drop p)) = true → p + 1 < ts.length := fun hh => by
    rw [Bool.and_eq_true] at hh
    refine hT.next hp fun hk => ?_
    have h2 := hh.2
    unfold isNm at h2
    rw [hk] at h2
    simp at h2
  have HN := Lib.hid hn
  have hz : (!d && isNm resB (ts.drop p)) = (!d && ((here (ts.drop p)).k == 1 && !resB (here (ts.drop p)).s)) := rfl
  have hnd : nameD d (ts.drop p) = if (!d && isNm resB (ts.drop p)) = true then (here (ts.drop p)).s else [] := rfl
  rw [hnd]
  have HRes := Lib.hid (fun W => rReserved_any (str (here (ts.drop p)).s) W)
  rw [str_list] at HRes
  have HZ := Lib.hid hz
  generalize (!d && isNm resB (ts.drop p)) = z at *
  generalize here (ts.drop p) = u at *
  obtain ⟨uk, us, ui, up⟩ := u
  simp only [T.val] at *
  generalize resB us = rb at *
  have hstr : str (if z = true then us else []) = if z = true then str us else ⟨#[]⟩ := by split <;> rfl
  rw [hstr]
  generalize str us = x at *
  clear h hT hz hn hnd hstr
  have hbw := (HR.out w (.refl _ _)).lt
  go_enter Tryz.func117, Tryz.ntmps117
  go_wp2_with fail
  refine (HH.out).mono ?_
  rintro r w2 ⟨rfl, b2⟩
  have B2 := Lib.hid (bthen b2 ((Below.refl w2.heap.size w2).alloc (Nat.le_refl _) (.cells #[.int .i64 uk, .string x, .int .i64 ui, .int .i64 up] 51)))
  have T2 : (w2.alloc (.cells #[.int .i64 uk, .string x, .int .i64 ui, .int .i64 up] 51)).heap[w2.heap.size]? = some (.cells #[.int .i64 uk, .string x, .int .i64 ui, .int .i64 up] 51 (0, 0)) := heap_alloc_new w2 _
  obtain ⟨W2, hW2⟩ : ∃ W2, W2 = w2.alloc (.cells #[.int .i64 uk, .string x, .int .i64 ui, .int .i64 up] 51) := ⟨_, rfl⟩
  rw [← hW2] at B2 T2
  have hbz := b2.size
  have R2 := Lib.hid (HR.out _ B2.out)
  obtain ⟨c0, c1, c2, f1, f2⟩ := R2.out.cells
  have t0 : W2.cell? ⟨w2.heap.size, 0, none⟩ = some (.int .i64 uk) := by rw [Lib.cell_of_heap T2]; rfl
  have t1 : W2.cell? ⟨w2.heap.size, 1, none⟩ = some (.string x) := by rw [Lib.cell_of_heap T2]; rfl
  have HT2 := Lib.hid T2
  have HW2 := Lib.hid hW2
  have BB := Lib.hid (But.of (b := b) B2.out (Nat.le_refl _))
  clear hW2 T2 HR HH b2
  have bad : z = false → RR (W2.setCell ⟨b, 2, none⟩ (.bool true)) b ts A c (stepP z p) (!z) t ex := fun hz => by subst hz; exact R2.out.bad true
  have HBad := Lib.hid bad
  clear bad
  cases d
  · by_cases hk : uk = 1
    · subst hk
      go_wp2_with (rw [← HW2.out])
      refine (HRes.out _).mono ?_
      rintro r w3 ⟨rfl, b3⟩
      have R3 := Lib.hid (R2.out.later b3)
      have B3 := Lib.hid (BB.out.then b3)
      obtain ⟨c0, c1, c2, f1, f2⟩ := R3.out.cells
      have hz3 := b3.size
      have T3 : w3.heap[w2.heap.size]? = some (.cells #[.int .i64 1, .string x, .int .i64 ui, .int .i64 up] 51 (0, 0)) := (b3.block _ (Array.getElem?_eq_some_iff.1 HT2.out).1).trans HT2.out
      have t1 : w3.cell? ⟨w2.heap.size, 1, none⟩ = some (.string x) := by rw [Lib.cell_of_heap T3]; rfl
      cases rb
      · have hz : z = true := HZ.out
        subst hz
        have hn := HN.out rfl
        have t1' : (w3.setCell ⟨b, 1, none⟩ (.int .i64 ((p : Int) + 1))).cell? ⟨w2.heap.size, 1, none⟩ = some (.string x) := (World.cell?_setCell_other w3 ⟨b, 1, none⟩ ⟨w2.heap.size, 1, none⟩ (.int .i64 ((p : Int) + 1)) (by simp <;> omega)).trans t1
        clear b3 T3
        go_wp2_with fail
        go_ret
        exact ⟨rfl, R3.out.at hn, B3.out.setCell _ _⟩
      · have hz : z = false := HZ.out
        subst hz
        clear b3 T3
        go_wp2_with fail
        go_ret
        exact ⟨rfl, R3.out.bad true, B3.out.setCell _ _⟩
    · have hk1 : (uk == 1) = false := by simpa using hk
      have hk2 : (uk != 1) = true := by simpa using hk
      have hz : z = false := by rw [HZ.out, hk1]; rfl
      subst hz
      go_wp2_with (rw [← HW2.out])
      go_ret
      exact ⟨rfl, HBad.out trivial, BB.out.setCell _ _⟩
  · have hz : z = false := HZ.out
    subst hz
    go_wp2_with (rw [← HW2.out])
    go_ret
    exact ⟨rfl, HBad.out trivial, BB.out.setCell _ _⟩
end Go.Proofs.YthohfegnphocbaaGreatDoor
namespace Go.Proofs.YthohfegnphocbaaGreatDoor
open Go.RowKit
set_option maxRecDepth 100000 in
set_option maxHeartbeats 2000000 in
theorem rWords (n : Nat) (hn : n = 1 ∨ n = 2 ∨ n = 5 ∨ n = 6 ∨ n = 7) (w : World) : Calls Tryz.prog 73 #[.int .i64 n] w fun r w' => ∃ g, r = .returned (.slice (some ⟨g, 0, none⟩) (wordsOf n).length (wordsOf n).length) ∧ MAt w' g ((wordsOf n).map str) ∧ w.heap.size ≤ g ∧ Below w.heap.size w w' := by
  have key : ∀ ms : List (List UInt8), MAt (w.alloc (.cells (ms.map fun m => Value.string (str m)).toArray 9)) w.heap.size (ms.map str) := fun ms => by
    refine ⟨by simp, fun j hj => ?_⟩
    rw [Lib.cell_of_heap (heap_alloc_new w _)]
    rw [List.length_map] at hj
    simp [hj]
  have hb : ∀ o, Below w.heap.size w (w.alloc o) := fun o => (Below.refl w.heap.size w).alloc (Nat.le_refl _) o
  rcases hn with rfl | rfl | rfl | rfl | rfl
  · have k := key (wordsOf 1)
    have HK := Lib.hid k
    have HB := Lib.hid hb
    clear k key hb
    simp only [wordsOf, List.map_cons, List.map_nil, str, wOr] at HK
    go_enter Tryz.func73, Tryz.ntmps73
    go_wp2_with fail
    go_ret
    exact ⟨_, rfl, HK.out, Nat.le_refl _, HB.out _⟩
  · have k := key (wordsOf 2)
    have HK := Lib.hid k
    have HB := Lib.hid hb
    clear k key hb
    simp only [wordsOf, List.map_cons, List.map_nil, str, wAnd] at HK
    go_enter Tryz.func73, Tryz.ntmps73
    go_wp2_with fail
    go_ret
    exact ⟨_, rfl, HK.out, Nat.le_refl _, HB.out _⟩
  · have k := key (wordsOf 5)
    have HK := Lib.hid k
    have HB := Lib.hid hb
    clear k key hb
    simp only [wordsOf, List.map_cons, List.map_nil, str] at HK
    go_enter Tryz.func73, Tryz.ntmps73
    go_wp2_with fail
    go_ret
    exact ⟨_, rfl, HK.out, Nat.le_refl _, HB.out _⟩
  · have k := key (wordsOf 6)
    have HK := Lib.hid k
    have HB := Lib.hid hb
    clear k key hb
    simp only [wordsOf, List.map_cons, List.map_nil, str] at HK
    go_enter Tryz.func73, Tryz.ntmps73
    go_wp2_with fail
    go_ret
    exact ⟨_, rfl, HK.out, Nat.le_refl _, HB.out _⟩
  · have k := key (wordsOf 7)
    have HK := Lib.hid k
    have HB := Lib.hid hb
    clear k key hb
    simp only [wordsOf, List.map_cons, List.map_nil, str] at HK
    go_enter Tryz.func73, Tryz.ntmps73
    go_wp2_with fail
    go_ret
    exact ⟨_, rfl, HK.out, Nat.le_refl _, HB.out _⟩
set_option maxRecDepth 100000 in
set_option maxHeartbeats 2000000 in
theorem rCall1 (so : ByteArray) (A : Option Addr) (n c : Nat) (w : World) : Calls Tryz.prog 118 #[.string so, .slice A n c] w fun r w' => r = .returned (.agg #[.string ⟨#[99, 97, 108, 108]⟩, .int .i64 0, .int .i64 0, .string ⟨#[]⟩, .string ⟨#[]⟩, .string so, .slice A n c]) ∧ Below w.heap.size w w' := by
  obtain ⟨W1, W, hW1, hW, p1, p2, hz, hb1, hb2⟩ := made7 w (.string ⟨#[99, 97, 108, 108]⟩) (.int .i64 0) (.int .i64 0) (.string ⟨#[]⟩) (.string ⟨#[]⟩) (.string so) (.slice A n c)
  obtain ⟨a0, a1, a2, a3, a4, a5, a6⟩ := p1.cells
  obtain ⟨f0, f1, f2, f3, f4, f5, f6⟩ := p1.free
  obtain ⟨l0, l1, l2, l3, l4, l5, l6⟩ := p2.cells
  have HW1 := Lib.hid hW1
  have HW := Lib.hid hW
  have HB := Lib.hid hb2
  clear hW1 hW p1 p2 hb1 hb2
  go_enter Tryz.func118, Tryz.ntmps118
  go_wp2_with (first | (rw [← HW.out]) | (rw [← HW1.out]))
  exact bodyPost_ret (v := .agg #[.string ⟨#[99, 97, 108, 108]⟩, .int .i64 0, .int .i64 0, .string ⟨#[]⟩, .string ⟨#[]⟩, .string so, .slice A n c]) (by simp [results, Tryz.results118, go_sem, l0, l1, l2, l3, l4, l5, l6]) rfl ⟨rfl, HB.out⟩
set_option maxRecDepth 100000 in
set_option maxHeartbeats 2000000 in
theorem rText1 (s : ByteArray) (w : World) : Calls Tryz.prog 114 #[.string s] w fun r w' => r = .returned (.agg #[.int .i64 3, .int .i64 0, .string s]) ∧ Below w.heap.size w w' := by
  obtain ⟨W0, hW0, p0, z0, r0⟩ := box3 w (.int .i64 0) (.int .i64 0) (.string ⟨#[]⟩)
  obtain ⟨W, hW, p, z, o, hb⟩ := stored3 p0 (.int .i64 3) (.int .i64 0) (.string s)
  obtain ⟨a0, a1, a2⟩ := p0.cells
  obtain ⟨f0, f1, f2⟩ := p0.free
  obtain ⟨l0, l1, l2⟩ := p.cells
  have HW0 := Lib.hid hW0
  have HW := Lib.hid hW
  have HB := Lib.hid (r0.trans (hb w.heap.size (Nat.le_refl _)))
  clear hW0 hW hb p0 p r0 z0 z o
  go_enter Tryz.func114, Tryz.ntmps114
  go_wp2_with (first | (rw [← HW.out]) | (rw [← HW0.out]))
  exact bodyPost_ret (v := .agg #[.int .i64 3, .int .i64 0, .string s]) (by simp [results, Tryz.results114, go_sem, l0, l1, l2]) rfl ⟨rfl, HB.out⟩
set_option maxRecDepth 100000 in
set_option maxHeartbeats 2000000 in
theorem rBlob1 (s : ByteArray) (w : World) : Calls Tryz.prog 115 #[.string s] w fun r w' => r = .returned (.agg #[.int .i64 4, .int .i64 0, .string s]) ∧ Below w.heap.size w w' := by
  obtain ⟨W0, hW0, p0, z0, r0⟩ := box3 w (.int .i64 0) (.int .i64 0) (.string ⟨#[]⟩)
  obtain ⟨W, hW, p, z, o, hb⟩ := stored3 p0 (.int .i64 4) (.int .i64 0) (.string s)
  obtain ⟨a0, a1, a2⟩ := p0.cells
  obtain ⟨f0, f1, f2⟩ := p0.free
  obtain ⟨l0, l1, l2⟩ := p.cells
  have HW0 := Lib.hid hW0
  have HW := Lib.hid hW
  have HB := Lib.hid (r0.trans (hb w.heap.size (Nat.le_refl _)))
  clear hW0 hW hb p0 p r0 z0 z o
  go_enter Tryz.func115, Tryz.ntmps115
  go_wp2_with (first | (rw [← HW.out]) | (rw [← HW0.out]))
  exact bodyPost_ret (v := .agg #[.int .i64 4, .int .i64 0, .string s]) (by simp [results, Tryz.results115, go_sem, l0, l1, l2]) rfl ⟨rfl, HB.out⟩
set_option maxRecDepth 100000 in
set_option maxHeartbeats 2000000 in
theorem rTrue1 (w : World) : Calls Tryz.prog 116 #[.bool true] w fun r w' => r = .returned (.agg #[.int .i64 1, .int .i64 1, .string ⟨#[]⟩]) ∧ Below w.heap.size w w' := by
  obtain ⟨W0, hW0, p0, z0, r0⟩ := box3 w (.int .i64 0) (.int .i64 0) (.string ⟨#[]⟩)
  obtain ⟨W, hW, p, z, o, hb⟩ := stored3 p0 (.int .i64 1) (.int .i64 1) (.string ⟨#[]⟩)
  obtain ⟨a0, a1, a2⟩ := p0.cells
  obtain ⟨f0, f1, f2⟩ := p0.free
  obtain ⟨l0, l1, l2⟩ := p.cells
  have HW0 := Lib.hid hW0
  have HW := Lib.hid hW
  have HB := Lib.hid (r0.trans (hb w.heap.size (Nat.le_refl _)))
  clear hW0 hW hb p0 p r0 z0 z o
  go_enter Tryz.func116, Tryz.ntmps116
  go_wp2_with (first | (rw [← HW.out]) | (rw [← HW0.out]))
  exact bodyPost_ret (v := .agg #[.int .i64 1, .int .i64 1, .string ⟨#[]⟩]) (by simp [results, Tryz.results116, go_sem, l0, l1, l2]) rfl ⟨rfl, HB.out⟩
set_option maxRecDepth 100000 in
set_option maxHeartbeats 2000000 in
theorem rFalse1 (w : World) : Calls Tryz.prog 116 #[.bool false] w fun r w' => r = .returned (.agg #[.int .i64 1, .int .i64 0, .string ⟨#[]⟩]) ∧ Below w.heap.size w w' := by
  obtain ⟨W0, hW0, p0, z0, r0⟩ := box3 w (.int .i64 0) (.int .i64 0) (.string ⟨#[]⟩)
  obtain ⟨W, hW, p, z, o, hb⟩ := stored3 p0 (.int .i64 1) (.int .i64 0) (.string ⟨#[]⟩)
  obtain ⟨a0, a1, a2⟩ := p0.cells
  obtain ⟨f0, f1, f2⟩ := p0.free
  obtain ⟨l0, l1, l2⟩ := p.cells
  have HW0 := Lib.hid hW0
  have HW := Lib.hid hW
  have HB := Lib.hid (r0.trans (hb w.heap.size (Nat.le_refl _)))
  clear hW0 hW hb p0 p r0 z0 z o
  go_enter Tryz.func116, Tryz.ntmps116
  go_wp2_with (first | (rw [← HW.out]) | (rw [← HW0.out]))
  exact bodyPost_ret (v := .agg #[.int .i64 1, .int .i64 0, .string ⟨#[]⟩]) (by simp [results, Tryz.results116, go_sem, l0, l1, l2]) rfl ⟨rfl, HB.out⟩
end Go.Proofs.YthohfegnphocbaaGreatDoor
namespace Go.Proofs.YthohfegnphocbaaGreatDoor
open Go.RowKit
def rank (ts : List T) (p : Nat) (d : Bool) : Nat := if d then 0 else ts.length - p
def LineH (ts : List T) (t : TypeId) (ex : List Value) (v n : Nat) : Prop := ∀ (p : Nat) (d : Bool) (w : World) (b : Nat) (A : Option Addr) (c : Nat), RR w b ts A c p d t ex → rank ts p d ≤ v →
  Calls Tryz.prog 35 #[.pointer (some ⟨b, 0, none⟩), .int .i64 n] w (Rq ts b A c p t ex w (fun k => w.heap.size ≤ k) (xd d (ln resB n (ts.drop p))))
def endL (x : X (List E)) : List E := match x with
  | .error _ => []
  | .ok (l, _) => l
def Rl (ts : List T) (b : Nat) (A : Option Addr) (c p : Nat) (t : TypeId) (ex : List Value) (w : World) (x : X (List E)) (e : Ending) (w' : World) : Prop :=
  (∃ (u : Value) (l : List E), e = .returned u ∧ OwnL w' w.heap.size (fun k => w.heap.size ≤ k) l false u ∧ (endD x = false → l = endL x) ∧ l.length ≤ 1000000 ∧ RR w' b ts A c (endP p x) (endD x) t ex) ∧ But b w w'
def ListH (ts : List T) (t : TypeId) (ex : List Value) (v : Nat) : Prop := ∀ (p : Nat) (d : Bool) (w : World) (b : Nat) (A : Option Addr) (c : Nat), RR w b ts A c p d t ex → rank ts p d ≤ v →
  Calls Tryz.prog 112 #[.pointer (some ⟨b, 0, none⟩)] w (Rl ts b A c p t ex w (xd d (ls resB (ts.drop p))))
theorem putR {w0 w : World} {b : Nat} {ts : List T} {A : Option Addr} {c p : Nat} {d : Bool} {t : TypeId} {ex : List Value} {e : E} {d' : Bool} {s0 s3 s4 s5 : ByteArray} {i1 i2 : Int} {A9 : Option Addr} {n9 c9 : Nat} {z0 z1 z2 z3 z4 z5 z6 : Value}
    (R : RR w b ts A c p d t ex) (G : Got w (fun k => w0.heap.size < k) e d' (.agg #[.string s0, .int .i64 i1, .int .i64 i2, .string s3, .string s4, .string s5, .slice A9 n9 c9])) (q : B7 w w0.heap.size z0 z1 z2 z3 z4 z5 z6) (hr : b < w0.heap.size) (hB : But b w0 w) :
    ∃ W : World, W = (((((((w.setCell ⟨w0.heap.size, 0, none⟩ (.string s0)).setCell ⟨w0.heap.size, 1, none⟩ (.int .i64 i1)).setCell ⟨w0.heap.size, 2, none⟩ (.int .i64 i2)).setCell ⟨w0.heap.size, 3, none⟩ (.string s3)).setCell ⟨w0.heap.size, 4, none⟩ (.string s4)).setCell ⟨w0.heap.size, 5, none⟩ (.string s5)).setCell ⟨w0.heap.size, 6, none⟩ (.slice A9 n9 c9)) ∧
      B7 W w0.heap.size (.string s0) (.int .i64 i1) (.int .i64 i2) (.string s3) (.string s4) (.string s5) (.slice A9 n9 c9) ∧ Hid (RR W b ts A c p d t ex) ∧ Hid (Got W (fun k => w0.heap.size ≤ k) e d' (.agg #[.string s0, .int .i64 i1, .int .i64 i2, .string s3, .string s4, .string s5, .slice A9 n9 c9])) ∧ Hid (But b w0 W) := by
  obtain ⟨W, h1, h2, h3, h4, h5⟩ := stored7 q (.string s0) (.int .i64 i1) (.int .i64 i2) (.string s3) (.string s4) (.string s5) (.slice A9 n9 c9)
  refine ⟨W, h1, h2, Lib.hid (R.own hr h4 h5), Lib.hid ?_, Lib.hid ?_⟩
  · obtain ⟨e', g1, g2⟩ := G
    exact ⟨e', g1.keep (fun k hk _ => ⟨Nat.le_of_lt hk, h4 k (by omega)⟩) (by omega), g2⟩
  · have h6 := h5 w0.heap.size (Nat.le_refl _)
    exact ⟨h6.os.trans hB.os, h6.tape.trans hB.tape, h6.output.trans hB.output, by have := hB.size; omega, fun k hk hkb => (h4 k (by omega)).trans (hB.block k hk hkb)⟩
structure Inv (w0 w : World) (b : Nat) (ts : List T) (A : Option Addr) (c p : Nat) (d : Bool) (t : TypeId) (ex : List Value) : Prop where
  R : RR w b ts A c p d t ex
  q : B7 w w0.heap.size (.string ⟨#[]⟩) (.int .i64 0) (.int .i64 0) (.string ⟨#[]⟩) (.string ⟨#[]⟩) (.string ⟨#[]⟩) (.slice none 0 0)
  B : But b w0 w
  lt : b < w0.heap.size
section
variable {w0 w w' : World} {b : Nat} {ts : List T} {A : Option Addr} {c p : Nat} {d : Bool} {t : TypeId} {ex : List Value}
theorem Inv.later (h : Inv w0 w b ts A c p d t ex) (hb : Below w.heap.size w w') : Inv w0 w' b ts A c p d t ex := ⟨h.R.later hb, h.q.later hb, h.B.then hb, h.lt⟩
theorem Inv.but {p' : Nat} {d' : Bool} (h : Inv w0 w b ts A c p d t ex) (hb : But b w w') (R : RR w' b ts A c p' d' t ex) : Inv w0 w' b ts A c p' d' t ex :=
  ⟨R, h.q.same (hb.block _ h.q.lt (by have := h.lt; omega)), h.B.trans hb, h.lt⟩
theorem Inv.at (h : Inv w0 w b ts A c p d t ex) {q : Nat} (hq : q < ts.length) : Inv w0 (w.setCell ⟨b, 1, none⟩ (.int .i64 q)) b ts A c q d t ex :=
  h.but ((But.refl b w).setCell 1 _) (h.R.at hq)
theorem Inv.bad (h : Inv w0 w b ts A c p d t ex) (d' : Bool) : Inv w0 (w.setCell ⟨b, 2, none⟩ (.bool d')) b ts A c p d' t ex :=
  h.but ((But.refl b w).setCell 2 _) (h.R.bad d')
theorem Inv.lt2 (h : Inv w0 w b ts A c p d t ex) : w0.heap.size < w.heap.size := h.q.lt
theorem Inv.start (h : RR w b ts A c p d t ex) : ∃ W : World, W = w.alloc (.cells #[.string ⟨#[]⟩, .int .i64 0, .int .i64 0, .string ⟨#[]⟩, .string ⟨#[]⟩, .string ⟨#[]⟩, .slice none 0 0] 27) ∧ Hid (Inv w W b ts A c p d t ex) := by
  obtain ⟨W, hW, q, z, r⟩ := zero7 w
  exact ⟨W, hW, Lib.hid ⟨h.later r, q, .of r (Nat.le_refl _), h.lt⟩⟩
theorem Inv.put {e : E} {d' : Bool} {s0 s3 s4 s5 : ByteArray} {i1 i2 : Int} {A9 : Option Addr} {n9 c9 : Nat} (h : Inv w0 w b ts A c p d t ex) (G : Got w (fun k => w0.heap.size < k) e d' (.agg #[.string s0, .int .i64 i1, .int .i64 i2, .string s3, .string s4, .string s5, .slice A9 n9 c9])) :
    ∃ W : World, W = (((((((w.setCell ⟨w0.heap.size, 0, none⟩ (.string s0)).setCell ⟨w0.heap.size, 1, none⟩ (.int .i64 i1)).setCell ⟨w0.heap.size, 2, none⟩ (.int .i64 i2)).setCell ⟨w0.heap.size, 3, none⟩ (.string s3)).setCell ⟨w0.heap.size, 4, none⟩ (.string s4)).setCell ⟨w0.heap.size, 5, none⟩ (.string s5)).setCell ⟨w0.heap.size, 6, none⟩ (.slice A9 n9 c9)) ∧
      B7 W w0.heap.size (.string s0) (.int .i64 i1) (.int .i64 i2) (.string s3) (.string s4) (.string s5) (.slice A9 n9 c9) ∧ Hid (RR W b ts A c p d t ex) ∧ Hid (Got W (fun k => w0.heap.size ≤ k) e d' (.agg #[.string s0, .int .i64 i1, .int .i64 i2, .string s3, .string s4, .string s5, .slice A9 n9 c9])) ∧ Hid (But b w0 W) := putR h.R G h.q h.lt h.B
theorem tbox (w : World) (uk ui : Int) (x : ByteArray) (up : Nat) : ∃ W : World, W = w.alloc (.cells #[.int .i64 uk, .string x, .int .i64 ui, .int .i64 up] 51) ∧ Hid (W.heap[w.heap.size]? = some (.cells #[.int .i64 uk, .string x, .int .i64 ui, .int .i64 up] 51 (0, 0))) ∧ Below w.heap.size w W :=
  ⟨_, rfl, Lib.hid (heap_alloc_new w _), (Below.refl w.heap.size w).alloc (Nat.le_refl _) _⟩
end
theorem rank_eat {ts : List T} {p v : Nat} (h : rank ts p false ≤ v + 1) (hp : p < ts.length) : rank ts (p + 1) false ≤ v := by
  unfold rank at *
  simp only [Bool.false_eq_true, if_false] at *
  omega
theorem RR.eqp {w : World} {b : Nat} {ts : List T} {A : Option Addr} {c p p' : Nat} {d : Bool} {t : TypeId} {ex : List Value} (h : RR w b ts A c p d t ex) (e : p = p') : RR w b ts A c p' d t ex := e ▸ h
theorem Got.bad {w : World} {S : Nat → Prop} {e : E} (e' : E) {x : Value} (h : Got w S e true x) : Got w S e' true x := by
  obtain ⟨f, h1, -⟩ := h
  exact ⟨f, h1, fun hh => by cases hh⟩
theorem isD_t (m : ByteArray) (l : List T) : isD true m l = false := rfl
theorem isD_f (m : ByteArray) (l : List T) : isD false m l = isS m.data.toList l := rfl
theorem stepP_f (p : Nat) : stepP false p = p := rfl
theorem stepP_t (p : Nat) : stepP true p = p + 1 := rfl
theorem rgot_lit {S : Nat → Prop} {w : World} (d : Bool) (o : List UInt8) (v : Vl) (t n : List UInt8) : Got w S (.mk o v t n []) d (.agg #[.string (str o), .int .i64 v.k, .int .i64 v.i, .string (str v.s), .string (str t), .string (str n), .slice none 0 0]) := ⟨_, lit_at S w o v t n, fun _ => rfl⟩
section
variable {ts : List T} (hT : Toks ts) (m : ByteArray) (w : World) (b : Nat) (A : Option Addr) (c p : Nat) (t : TypeId) (ex : List Value)
include hT
theorem rEatT (h : RR w b ts A c p false t ex) (hs : isS m.data.toList (ts.drop p) = true) : Calls Tryz.prog 69 #[.pointer (some ⟨b, 0, none⟩), .string m] w fun e w' => e = .returned (.bool true) ∧ RR w' b ts A c (p + 1) false t ex ∧ But b w w' := by
  have := rEat hT m w b A c p false t ex h
  rw [isD_f, hs] at this
  exact this
theorem rEatF (d : Bool) (h : RR w b ts A c p d t ex) (hs : isD d m (ts.drop p) = false) : Calls Tryz.prog 69 #[.pointer (some ⟨b, 0, none⟩), .string m] w fun e w' => e = .returned (.bool false) ∧ RR w' b ts A c p d t ex ∧ But b w w' := by
  have := rEat hT m w b A c p d t ex h
  rw [hs] at this
  exact this
theorem rNeedT (h : RR w b ts A c p false t ex) (hs : isS m.data.toList (ts.drop p) = true) : Calls Tryz.prog 111 #[.pointer (some ⟨b, 0, none⟩), .string m] w fun e w' => e = .returned (.tuple #[]) ∧ RR w' b ts A c (p + 1) false t ex ∧ But b w w' := by
  have := rNeed hT m w b A c p false t ex h
  rw [isD_f, hs] at this
  exact this
theorem rNeedF (d : Bool) (h : RR w b ts A c p d t ex) (hs : isD d m (ts.drop p) = false) : Calls Tryz.prog 111 #[.pointer (some ⟨b, 0, none⟩), .string m] w fun e w' => e = .returned (.tuple #[]) ∧ RR w' b ts A c p true t ex ∧ But b w w' := by
  have := rNeed hT m w b A c p d t ex h
  rw [hs] at this
  exact this
theorem rNameT (h : RR w b ts A c p false t ex) (hs : isNm resB (ts.drop p) = true) : Calls Tryz.prog 117 #[.pointer (some ⟨b, 0, none⟩)] w fun e w' => e = .returned (.string (str (here (ts.drop p)).s)) ∧ RR w' b ts A c (p + 1) false t ex ∧ But b w w' := by
  have := rName hT w b A c p false t ex h
  unfold nameD at this
  rw [hs] at this
  exact this
theorem rNameF (d : Bool) (h : RR w b ts A c p d t ex) (hs : (!d && isNm resB (ts.drop p)) = false) : Calls Tryz.prog 117 #[.pointer (some ⟨b, 0, none⟩)] w fun e w' => e = .returned (.string ⟨#[]⟩) ∧ RR w' b ts A c p true t ex ∧ But b w w' := by
  have := rName hT w b A c p d t ex h
  unfold nameD at this
  rw [hs] at this
  exact this
end
end Go.Proofs.YthohfegnphocbaaGreatDoor
namespace Go.Proofs.YthohfegnphocbaaGreatDoor
open Go.RowKit
theorem e0_got {S : Nat → Prop} {w : World} (d : Bool) : Got w S e0 d (.agg #[.string ⟨#[]⟩, .int .i64 0, .int .i64 0, .string ⟨#[]⟩, .string ⟨#[]⟩, .string ⟨#[]⟩, .slice none 0 0]) := ⟨e0, e0_at _ _, fun _ => rfl⟩
set_option maxRecDepth 100000 in
set_option maxHeartbeats 8000000 in
theorem prim_bad {ts : List T} (hT : Toks ts) (t : TypeId) (ex : List Value) (w : World) (b : Nat) (A : Option Addr) (c p : Nat) (h : RR w b ts A c p true t ex) :
    Calls Tryz.prog 72 #[.pointer (some ⟨b, 0, none⟩)] w (Rq ts b A c p t ex w (fun k => w.heap.size ≤ k) (badX 0)) := by
  have hp := h.hp
  have hlen := hT.len
  obtain ⟨W1, hW1, I1⟩ := Inv.start h
  have HH := Lib.hid (rHere hT.len W1 b A c p true t ex I1.out.R)
  generalize here (ts.drop p) = u at *
  obtain ⟨uk, us, ui, up⟩ := u
  simp only [T.val] at *
  have HW1 := Lib.hid hW1
  have hbw := h.lt
  clear hW1 h hT
  go_enter Tryz.func72, Tryz.ntmps72
  go_wp2_with (rw [← HW1.out])
  refine (HH.out).mono ?_
  rintro r w2 ⟨rfl, b2⟩
  obtain ⟨W2, hW2, T2, m2⟩ := tbox w2 uk ui (str us) up
  have I2 := Lib.hid ((I1.out.later b2).later m2)
  have HW2 := Lib.hid hW2
  have hw2 : w.heap.size < w2.heap.size := Nat.lt_of_lt_of_le I1.out.lt2 b2.size
  have hw3 : w2.heap.size < W2.heap.size := (Array.getElem?_eq_some_iff.1 T2.out).1
  have k0 : W2.cell? ⟨w2.heap.size, 0, none⟩ = some (.int .i64 uk) := by rw [Lib.cell_of_heap T2.out]; rfl
  have k1 : W2.cell? ⟨w2.heap.size, 1, none⟩ = some (.string (str us)) := by rw [Lib.cell_of_heap T2.out]; rfl
  have k2 : W2.cell? ⟨w2.heap.size, 2, none⟩ = some (.int .i64 ui) := by rw [Lib.cell_of_heap T2.out]; rfl
  obtain ⟨c0, c1, c2, f1, f2⟩ := I2.out.R.cells
  clear hW2 m2 b2 I1 HH HW1
  obtain ⟨W9, hW9, q9, HR9, HG9, HB9⟩ := I2.out.put (e0_got true)
  have HW9 := Lib.hid hW9
  obtain ⟨x0, x1, x2, x3, x4, x5, x6⟩ := I2.out.q.cells
  obtain ⟨g0, g1, g2, g3, g4, g5, g6⟩ := I2.out.q.free
  obtain ⟨l0, l1, l2, l3, l4, l5, l6⟩ := q9.cells
  clear hW9 q9
  go_wp2_with (first | (rw [← HW9.out]) | (rw [← HW2.out]))
  exact bodyPost_ret (v := .agg #[.string ⟨#[]⟩, .int .i64 0, .int .i64 0, .string ⟨#[]⟩, .string ⟨#[]⟩, .string ⟨#[]⟩, .slice none 0 0]) (by simp [results, Tryz.results72, go_sem, l0, l1, l2, l3, l4, l5, l6]) rfl ⟨⟨_, rfl, HG9.out, (show RR W9 b ts A c (p + 0) true t ex from HR9.out)⟩, HB9.out⟩
set_option maxRecDepth 100000 in
set_option maxHeartbeats 8000000 in
theorem prim_num {ts : List T} (hT : Toks ts) (t : TypeId) (ex : List Value) (w : World) (b : Nat) (A : Option Addr) (c p : Nat) (h : RR w b ts A c p false t ex) (hk : (here (ts.drop p)).k = 2) (hi : 0 ≤ (here (ts.drop p)).i) :
    Calls Tryz.prog 72 #[.pointer (some ⟨b, 0, none⟩)] w (Rq ts b A c p t ex w (fun k => w.heap.size ≤ k) (okX (lit ⟨2, (here (ts.drop p)).i, []⟩) 1)) := by
  have hp := h.hp
  have hlen := hT.len
  have hn : p + 1 < ts.length := hT.next hp (by rw [hk]; decide)
  obtain ⟨W1, hW1, I1⟩ := Inv.start h
  have HH := Lib.hid (rHere hT.len W1 b A c p false t ex I1.out.R)
  generalize here (ts.drop p) = u at *
  obtain ⟨uk, us, ui, up⟩ := u
  simp only [T.val] at *
  have HW1 := Lib.hid hW1
  have hbw := h.lt
  clear hW1 h hT
  go_enter Tryz.func72, Tryz.ntmps72
  go_wp2_with (rw [← HW1.out])
  refine (HH.out).mono ?_
  rintro r w2 ⟨rfl, b2⟩
  obtain ⟨W2, hW2, T2, m2⟩ := tbox w2 uk ui (str us) up
  have I2 := Lib.hid ((I1.out.later b2).later m2)
  have HW2 := Lib.hid hW2
  have hw2 : w.heap.size < w2.heap.size := Nat.lt_of_lt_of_le I1.out.lt2 b2.size
  have hw3 : w2.heap.size < W2.heap.size := (Array.getElem?_eq_some_iff.1 T2.out).1
  have k0 : W2.cell? ⟨w2.heap.size, 0, none⟩ = some (.int .i64 uk) := by rw [Lib.cell_of_heap T2.out]; rfl
  have k1 : W2.cell? ⟨w2.heap.size, 1, none⟩ = some (.string (str us)) := by rw [Lib.cell_of_heap T2.out]; rfl
  have k2 : W2.cell? ⟨w2.heap.size, 2, none⟩ = some (.int .i64 ui) := by rw [Lib.cell_of_heap T2.out]; rfl
  obtain ⟨c0, c1, c2, f1, f2⟩ := I2.out.R.cells
  clear hW2 m2 b2 I1 HH HW1
  subst hk
  obtain ⟨W3, hW3⟩ : ∃ W3, W3 = W2.setCell ⟨b, 1, none⟩ (.int .i64 ((p : Int) + 1)) := ⟨_, rfl⟩
  have I3 : Hid (Inv w W3 b ts A c (p + 1) false t ex) := Lib.hid (by rw [hW3]; exact I2.out.at hn)
  have T3 : W3.heap[w2.heap.size]? = some (.cells #[.int .i64 2, .string (str us), .int .i64 ui, .int .i64 up] 51 (0, 0)) := by rw [hW3, Below.heap_setCell _ _ _ _ (show w2.heap.size ≠ b by omega)]; exact T2.out
  have j1 : W3.cell? ⟨w2.heap.size, 1, none⟩ = some (.string (str us)) := by rw [Lib.cell_of_heap T3]; rfl
  have j2 : W3.cell? ⟨w2.heap.size, 2, none⟩ = some (.int .i64 ui) := by rw [Lib.cell_of_heap T3]; rfl
  have HW3 := Lib.hid hW3
  clear hW3 T3
  go_wp2_with (first | (rw [← HW3.out]) | (rw [← HW2.out]))
  refine (rInt1 _ _).mono ?_
  rintro r w4 ⟨rfl, b4⟩
  go_wp2_with fail
  refine (rLit _ _ _ _).mono ?_
  rintro r w5 ⟨rfl, b5⟩
  have I5 := Lib.hid ((I3.out.later b4).later b5)
  clear b4 b5
  obtain ⟨W9, hW9, q9, HR9, HG9, HB9⟩ := I5.out.put (show Got w5 (fun k => w.heap.size < k) (lit ⟨2, ui, []⟩) false (.agg #[.string ⟨#[108, 105, 116]⟩, .int .i64 2, .int .i64 ui, .string ⟨#[]⟩, .string ⟨#[]⟩, .string ⟨#[]⟩, .slice none 0 0]) from rgot_lit false wLit ⟨2, ui, []⟩ [] [])
  have HW9 := Lib.hid hW9
  obtain ⟨x0, x1, x2, x3, x4, x5, x6⟩ := I5.out.q.cells
  obtain ⟨g0, g1, g2, g3, g4, g5, g6⟩ := I5.out.q.free
  obtain ⟨l0, l1, l2, l3, l4, l5, l6⟩ := q9.cells
  clear hW9 q9
  go_wp2_with (rw [← HW9.out])
  exact bodyPost_ret (v := .agg #[.string ⟨#[108, 105, 116]⟩, .int .i64 2, .int .i64 ui, .string ⟨#[]⟩, .string ⟨#[]⟩, .string ⟨#[]⟩, .slice none 0 0]) (by simp [results, Tryz.results72, go_sem, l0, l1, l2, l3, l4, l5, l6]) rfl ⟨⟨_, rfl, HG9.out, HR9.out⟩, HB9.out⟩
set_option maxRecDepth 100000 in
set_option maxHeartbeats 8000000 in
theorem prim_text {ts : List T} (hT : Toks ts) (t : TypeId) (ex : List Value) (w : World) (b : Nat) (A : Option Addr) (c p : Nat) (h : RR w b ts A c p false t ex) (hk : (here (ts.drop p)).k = 3) :
    Calls Tryz.prog 72 #[.pointer (some ⟨b, 0, none⟩)] w (Rq ts b A c p t ex w (fun k => w.heap.size ≤ k) (okX (lit ⟨3, 0, (here (ts.drop p)).s⟩) 1)) := by
  have hp := h.hp
  have hlen := hT.len
  have hn : p + 1 < ts.length := hT.next hp (by rw [hk]; decide)
  obtain ⟨W1, hW1, I1⟩ := Inv.start h
  have HH := Lib.hid (rHere hT.len W1 b A c p false t ex I1.out.R)
  generalize here (ts.drop p) = u at *
  obtain ⟨uk, us, ui, up⟩ := u
  simp only [T.val] at *
  have HW1 := Lib.hid hW1
  have hbw := h.lt
  clear hW1 h hT
  go_enter Tryz.func72, Tryz.ntmps72
  go_wp2_with (rw [← HW1.out])
  refine (HH.out).mono ?_
  rintro r w2 ⟨rfl, b2⟩
  obtain ⟨W2, hW2, T2, m2⟩ := tbox w2 uk ui (str us) up
  have I2 := Lib.hid ((I1.out.later b2).later m2)
  have HW2 := Lib.hid hW2
  have hw2 : w.heap.size < w2.heap.size := Nat.lt_of_lt_of_le I1.out.lt2 b2.size
  have hw3 : w2.heap.size < W2.heap.size := (Array.getElem?_eq_some_iff.1 T2.out).1
  have k0 : W2.cell? ⟨w2.heap.size, 0, none⟩ = some (.int .i64 uk) := by rw [Lib.cell_of_heap T2.out]; rfl
  have k1 : W2.cell? ⟨w2.heap.size, 1, none⟩ = some (.string (str us)) := by rw [Lib.cell_of_heap T2.out]; rfl
  have k2 : W2.cell? ⟨w2.heap.size, 2, none⟩ = some (.int .i64 ui) := by rw [Lib.cell_of_heap T2.out]; rfl
  obtain ⟨c0, c1, c2, f1, f2⟩ := I2.out.R.cells
  clear hW2 m2 b2 I1 HH HW1
  subst hk
  obtain ⟨W3, hW3⟩ : ∃ W3, W3 = W2.setCell ⟨b, 1, none⟩ (.int .i64 ((p : Int) + 1)) := ⟨_, rfl⟩
  have I3 : Hid (Inv w W3 b ts A c (p + 1) false t ex) := Lib.hid (by rw [hW3]; exact I2.out.at hn)
  have T3 : W3.heap[w2.heap.size]? = some (.cells #[.int .i64 3, .string (str us), .int .i64 ui, .int .i64 up] 51 (0, 0)) := by rw [hW3, Below.heap_setCell _ _ _ _ (show w2.heap.size ≠ b by omega)]; exact T2.out
  have j1 : W3.cell? ⟨w2.heap.size, 1, none⟩ = some (.string (str us)) := by rw [Lib.cell_of_heap T3]; rfl
  have j2 : W3.cell? ⟨w2.heap.size, 2, none⟩ = some (.int .i64 ui) := by rw [Lib.cell_of_heap T3]; rfl
  have HW3 := Lib.hid hW3
  clear hW3 T3
  go_wp2_with (first | (rw [← HW3.out]) | (rw [← HW2.out]))
  refine (rText1 _ _).mono ?_
  rintro r w4 ⟨rfl, b4⟩
  go_wp2_with fail
  refine (rLit _ _ _ _).mono ?_
  rintro r w5 ⟨rfl, b5⟩
  have I5 := Lib.hid ((I3.out.later b4).later b5)
  clear b4 b5
  obtain ⟨W9, hW9, q9, HR9, HG9, HB9⟩ := I5.out.put (show Got w5 (fun k => w.heap.size < k) (lit ⟨3, 0, us⟩) false (.agg #[.string ⟨#[108, 105, 116]⟩, .int .i64 3, .int .i64 0, .string (str us), .string ⟨#[]⟩, .string ⟨#[]⟩, .slice none 0 0]) from rgot_lit false wLit ⟨3, 0, us⟩ [] [])
  have HW9 := Lib.hid hW9
  obtain ⟨x0, x1, x2, x3, x4, x5, x6⟩ := I5.out.q.cells
  obtain ⟨g0, g1, g2, g3, g4, g5, g6⟩ := I5.out.q.free
  obtain ⟨l0, l1, l2, l3, l4, l5, l6⟩ := q9.cells
  clear hW9 q9
  go_wp2_with (rw [← HW9.out])
  exact bodyPost_ret (v := .agg #[.string ⟨#[108, 105, 116]⟩, .int .i64 3, .int .i64 0, .string (str us), .string ⟨#[]⟩, .string ⟨#[]⟩, .slice none 0 0]) (by simp [results, Tryz.results72, go_sem, l0, l1, l2, l3, l4, l5, l6]) rfl ⟨⟨_, rfl, HG9.out, HR9.out⟩, HB9.out⟩
set_option maxRecDepth 100000 in
set_option maxHeartbeats 8000000 in
theorem prim_blob {ts : List T} (hT : Toks ts) (t : TypeId) (ex : List Value) (w : World) (b : Nat) (A : Option Addr) (c p : Nat) (h : RR w b ts A c p false t ex) (hk : (here (ts.drop p)).k = 4) :
    Calls Tryz.prog 72 #[.pointer (some ⟨b, 0, none⟩)] w (Rq ts b A c p t ex w (fun k => w.heap.size ≤ k) (okX (lit ⟨4, 0, (here (ts.drop p)).s⟩) 1)) := by
  have hp := h.hp
  have hlen := hT.len
  have hn : p + 1 < ts.length := hT.next hp (by rw [hk]; decide)
  obtain ⟨W1, hW1, I1⟩ := Inv.start h
  have HH := Lib.hid (rHere hT.len W1 b A c p false t ex I1.out.R)
  generalize here (ts.drop p) = u at *
  obtain ⟨uk, us, ui, up⟩ := u
  simp only [T.val] at *
  have HW1 := Lib.hid hW1
  have hbw := h.lt
  clear hW1 h hT
  go_enter Tryz.func72, Tryz.ntmps72
  go_wp2_with (rw [← HW1.out])
  refine (HH.out).mono ?_
  rintro r w2 ⟨rfl, b2⟩
  obtain ⟨W2, hW2, T2, m2⟩ := tbox w2 uk ui (str us) up
  have I2 := Lib.hid ((I1.out.later b2).later m2)
  have HW2 := Lib.hid hW2
  have hw2 : w.heap.size < w2.heap.size := Nat.lt_of_lt_of_le I1.out.lt2 b2.size
  have hw3 : w2.heap.size < W2.heap.size := (Array.getElem?_eq_some_iff.1 T2.out).1
  have k0 : W2.cell? ⟨w2.heap.size, 0, none⟩ = some (.int .i64 uk) := by rw [Lib.cell_of_heap T2.out]; rfl
  have k1 : W2.cell? ⟨w2.heap.size, 1, none⟩ = some (.string (str us)) := by rw [Lib.cell_of_heap T2.out]; rfl
  have k2 : W2.cell? ⟨w2.heap.size, 2, none⟩ = some (.int .i64 ui) := by rw [Lib.cell_of_heap T2.out]; rfl
  obtain ⟨c0, c1, c2, f1, f2⟩ := I2.out.R.cells
  clear hW2 m2 b2 I1 HH HW1
  subst hk
  obtain ⟨W3, hW3⟩ : ∃ W3, W3 = W2.setCell ⟨b, 1, none⟩ (.int .i64 ((p : Int) + 1)) := ⟨_, rfl⟩
  have I3 : Hid (Inv w W3 b ts A c (p + 1) false t ex) := Lib.hid (by rw [hW3]; exact I2.out.at hn)
  have T3 : W3.heap[w2.heap.size]? = some (.cells #[.int .i64 4, .string (str us), .int .i64 ui, .int .i64 up] 51 (0, 0)) := by rw [hW3, Below.heap_setCell _ _ _ _ (show w2.heap.size ≠ b by omega)]; exact T2.out
  have j1 : W3.cell? ⟨w2.heap.size, 1, none⟩ = some (.string (str us)) := by rw [Lib.cell_of_heap T3]; rfl
  have j2 : W3.cell? ⟨w2.heap.size, 2, none⟩ = some (.int .i64 ui) := by rw [Lib.cell_of_heap T3]; rfl
  have HW3 := Lib.hid hW3
  clear hW3 T3
  go_wp2_with (first | (rw [← HW3.out]) | (rw [← HW2.out]))
  refine (rBlob1 _ _).mono ?_
  rintro r w4 ⟨rfl, b4⟩
  go_wp2_with fail
  refine (rLit _ _ _ _).mono ?_
  rintro r w5 ⟨rfl, b5⟩
  have I5 := Lib.hid ((I3.out.later b4).later b5)
  clear b4 b5
  obtain ⟨W9, hW9, q9, HR9, HG9, HB9⟩ := I5.out.put (show Got w5 (fun k => w.heap.size < k) (lit ⟨4, 0, us⟩) false (.agg #[.string ⟨#[108, 105, 116]⟩, .int .i64 4, .int .i64 0, .string (str us), .string ⟨#[]⟩, .string ⟨#[]⟩, .slice none 0 0]) from rgot_lit false wLit ⟨4, 0, us⟩ [] [])
  have HW9 := Lib.hid hW9
  obtain ⟨x0, x1, x2, x3, x4, x5, x6⟩ := I5.out.q.cells
  obtain ⟨g0, g1, g2, g3, g4, g5, g6⟩ := I5.out.q.free
  obtain ⟨l0, l1, l2, l3, l4, l5, l6⟩ := q9.cells
  clear hW9 q9
  go_wp2_with (rw [← HW9.out])
  exact bodyPost_ret (v := .agg #[.string ⟨#[108, 105, 116]⟩, .int .i64 4, .int .i64 0, .string (str us), .string ⟨#[]⟩, .string ⟨#[]⟩, .slice none 0 0]) (by simp [results, Tryz.results72, go_sem, l0, l1, l2, l3, l4, l5, l6]) rfl ⟨⟨_, rfl, HG9.out, HR9.out⟩, HB9.out⟩
end Go.Proofs.YthohfegnphocbaaGreatDoor
