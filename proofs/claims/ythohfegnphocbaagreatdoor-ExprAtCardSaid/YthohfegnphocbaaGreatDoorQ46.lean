/- Contract of the reference's primary, at a word that is a value, and at a bracket. No condition. -/
import Derived.Test.YthohfegnphocbaaGreatDoorQ45
namespace Go.Proofs.YthohfegnphocbaaGreatDoor
open Go.RowKit
set_option maxRecDepth 100000 in
set_option maxHeartbeats 8000000 in
theorem prim_null {ts : List T} (hT : Toks ts) (t : TypeId) (ex : List Value) (w : World) (b : Nat) (A : Option Addr) (c p : Nat) (h : RR w b ts A c p false t ex) (h2 : (here (ts.drop p)).k ≠ 2) (h3 : (here (ts.drop p)).k ≠ 3) (h4 : (here (ts.drop p)).k ≠ 4) (ya : isS (⟨#[110, 117, 108, 108]⟩ : ByteArray).data.toList (ts.drop p) = true) :
    Calls Tryz.prog 72 #[.pointer (some ⟨b, 0, none⟩)] w (Rq ts b A c p t ex w (fun k => w.heap.size ≤ k) (okX (lit v0) 1)) := by
  have hp := h.hp
  have hlen := hT.len
  have e2 : ((here (ts.drop p)).k == 2) = false := by simpa using h2
  have e3 : ((here (ts.drop p)).k == 3) = false := by simpa using h3
  have e4 : ((here (ts.drop p)).k == 4) = false := by simpa using h4
  have HT := Lib.hid hT
  clear h2 h3 h4
  obtain ⟨W1, hW1, I1⟩ := Inv.start h
  have HH := Lib.hid (rHere hT.len W1 b A c p false t ex I1.out.R)
  generalize here (ts.drop p) = u at *
  obtain ⟨uk, us, ui, up⟩ := u
  simp only [T.val] at *
  have HW1 := Lib.hid hW1
  have hbw := h.lt
  clear hW1 h hT
  go_enter Tryz.func72, Tryz.ntmps72
  go_wp2_with (rw [← HW1.out])
  refine (HH.out).mono ?_
  rintro r w2 ⟨rfl, b2⟩
  obtain ⟨W2, hW2, T2, m2⟩ := tbox w2 uk ui (str us) up
  have I2 := Lib.hid ((I1.out.later b2).later m2)
  have HW2 := Lib.hid hW2
  have hw2 : w.heap.size < w2.heap.size := Nat.lt_of_lt_of_le I1.out.lt2 b2.size
  have hw3 : w2.heap.size < W2.heap.size := (Array.getElem?_eq_some_iff.1 T2.out).1
  have k0 : W2.cell? ⟨w2.heap.size, 0, none⟩ = some (.int .i64 uk) := by rw [Lib.cell_of_heap T2.out]; rfl
  have k1 : W2.cell? ⟨w2.heap.size, 1, none⟩ = some (.string (str us)) := by rw [Lib.cell_of_heap T2.out]; rfl
  have k2 : W2.cell? ⟨w2.heap.size, 2, none⟩ = some (.int .i64 ui) := by rw [Lib.cell_of_heap T2.out]; rfl
  obtain ⟨c0, c1, c2, f1, f2⟩ := I2.out.R.cells
  clear hW2 m2 b2 I1 HH HW1
  go_wp2_with (rw [← HW2.out])
  refine (rEatT HT.out ⟨#[110, 117, 108, 108]⟩ W2 b A c p t ex I2.out.R ya).mono ?_
  rintro r w3 ⟨rfl, R3, b3⟩
  have I3 := Lib.hid (I2.out.but b3 R3)
  clear b3 R3
  go_wp2_with fail
  refine (rLit _ _ _ _).mono ?_
  rintro r w4 ⟨rfl, b4⟩
  have I4 := Lib.hid (I3.out.later b4)
  clear b4
  obtain ⟨W9, hW9, q9, HR9, HG9, HB9⟩ := I4.out.put (show Got w4 (fun k => w.heap.size < k) (lit v0) false (.agg #[.string ⟨#[108, 105, 116]⟩, .int .i64 0, .int .i64 0, .string ⟨#[]⟩, .string ⟨#[]⟩, .string ⟨#[]⟩, .slice none 0 0]) from rgot_lit false wLit v0 [] [])
  have HW9 := Lib.hid hW9
  obtain ⟨x0, x1, x2, x3, x4, x5, x6⟩ := I4.out.q.cells
  obtain ⟨g0, g1, g2, g3, g4, g5, g6⟩ := I4.out.q.free
  obtain ⟨l0, l1, l2, l3, l4, l5, l6⟩ := q9.cells
  clear hW9 q9
  go_wp2_with (rw [← HW9.out])
  exact bodyPost_ret (v := .agg #[.string ⟨#[108, 105, 116]⟩, .int .i64 0, .int .i64 0, .string ⟨#[]⟩, .string ⟨#[]⟩, .string ⟨#[]⟩, .slice none 0 0]) (by simp [results, Tryz.results72, go_sem, l0, l1, l2, l3, l4, l5, l6]) rfl ⟨⟨_, rfl, HG9.out, HR9.out⟩, HB9.out⟩
set_option maxRecDepth 100000 in
set_option maxHeartbeats 8000000 in
theorem prim_true {ts : List T} (hT : Toks ts) (t : TypeId) (ex : List Value) (w : World) (b : Nat) (A : Option Addr) (c p : Nat) (h : RR w b ts A c p false t ex) (h2 : (here (ts.drop p)).k ≠ 2) (h3 : (here (ts.drop p)).k ≠ 3) (h4 : (here (ts.drop p)).k ≠ 4) (za : isD false ⟨#[110, 117, 108, 108]⟩ (ts.drop p) = false) (yb : isS (⟨#[116, 114, 117, 101]⟩ : ByteArray).data.toList (ts.drop p) = true) :
    Calls Tryz.prog 72 #[.pointer (some ⟨b, 0, none⟩)] w (Rq ts b A c p t ex w (fun k => w.heap.size ≤ k) (okX (lit ⟨1, 1, []⟩) 1)) := by
  have hp := h.hp
  have hlen := hT.len
  have e2 : ((here (ts.drop p)).k == 2) = false := by simpa using h2
  have e3 : ((here (ts.drop p)).k == 3) = false := by simpa using h3
  have e4 : ((here (ts.drop p)).k == 4) = false := by simpa using h4
  have HT := Lib.hid hT
  clear h2 h3 h4
  obtain ⟨W1, hW1, I1⟩ := Inv.start h
  have HH := Lib.hid (rHere hT.len W1 b A c p false t ex I1.out.R)
  generalize here (ts.drop p) = u at *
  obtain ⟨uk, us, ui, up⟩ := u
  simp only [T.val] at *
  have HW1 := Lib.hid hW1
  have hbw := h.lt
  clear hW1 h hT
  go_enter Tryz.func72, Tryz.ntmps72
  go_wp2_with (rw [← HW1.out])
  refine (HH.out).mono ?_
  rintro r w2 ⟨rfl, b2⟩
  obtain ⟨W2, hW2, T2, m2⟩ := tbox w2 uk ui (str us) up
  have I2 := Lib.hid ((I1.out.later b2).later m2)
  have HW2 := Lib.hid hW2
  have hw2 : w.heap.size < w2.heap.size := Nat.lt_of_lt_of_le I1.out.lt2 b2.size
  have hw3 : w2.heap.size < W2.heap.size := (Array.getElem?_eq_some_iff.1 T2.out).1
  have k0 : W2.cell? ⟨w2.heap.size, 0, none⟩ = some (.int .i64 uk) := by rw [Lib.cell_of_heap T2.out]; rfl
  have k1 : W2.cell? ⟨w2.heap.size, 1, none⟩ = some (.string (str us)) := by rw [Lib.cell_of_heap T2.out]; rfl
  have k2 : W2.cell? ⟨w2.heap.size, 2, none⟩ = some (.int .i64 ui) := by rw [Lib.cell_of_heap T2.out]; rfl
  obtain ⟨c0, c1, c2, f1, f2⟩ := I2.out.R.cells
  clear hW2 m2 b2 I1 HH HW1
  go_wp2_with (rw [← HW2.out])
  refine (rEatF HT.out ⟨#[110, 117, 108, 108]⟩ W2 b A c p t ex false I2.out.R za).mono ?_
  rintro r w3 ⟨rfl, R3, b3⟩
  have I3 := Lib.hid (I2.out.but b3 R3)
  clear b3 R3
  go_wp2_with fail
  refine (rEatT HT.out ⟨#[116, 114, 117, 101]⟩ w3 b A c p t ex I3.out.R yb).mono ?_
  rintro r w4 ⟨rfl, R4, b4⟩
  have I4 := Lib.hid (I3.out.but b4 R4)
  clear b4 R4
  go_wp2_with fail
  refine (rTrue1 _).mono ?_
  rintro r w5 ⟨rfl, b5⟩
  have I5 := Lib.hid (I4.out.later b5)
  clear b5
  go_wp2_with fail
  refine (rLit _ _ _ _).mono ?_
  rintro r w6 ⟨rfl, b6⟩
  have I6 := Lib.hid (I5.out.later b6)
  clear b6
  obtain ⟨W9, hW9, q9, HR9, HG9, HB9⟩ := I6.out.put (show Got w6 (fun k => w.heap.size < k) (lit ⟨1, 1, []⟩) false (.agg #[.string ⟨#[108, 105, 116]⟩, .int .i64 1, .int .i64 1, .string ⟨#[]⟩, .string ⟨#[]⟩, .string ⟨#[]⟩, .slice none 0 0]) from rgot_lit false wLit ⟨1, 1, []⟩ [] [])
  have HW9 := Lib.hid hW9
  obtain ⟨x0, x1, x2, x3, x4, x5, x6⟩ := I6.out.q.cells
  obtain ⟨g0, g1, g2, g3, g4, g5, g6⟩ := I6.out.q.free
  obtain ⟨l0, l1, l2, l3, l4, l5, l6⟩ := q9.cells
  clear hW9 q9
  go_wp2_with (rw [← HW9.out])
  exact bodyPost_ret (v := .agg #[.string ⟨#[108, 105, 116]⟩, .int .i64 1, .int .i64 1, .string ⟨#[]⟩, .string ⟨#[]⟩, .string ⟨#[]⟩, .slice none 0 0]) (by simp [results, Tryz.results72, go_sem, l0, l1, l2, l3, l4, l5, l6]) rfl ⟨⟨_, rfl, HG9.out, HR9.out⟩, HB9.out⟩
set_option maxRecDepth 100000 in
set_option maxHeartbeats 8000000 in
theorem prim_false {ts : List T} (hT : Toks ts) (t : TypeId) (ex : List Value) (w : World) (b : Nat) (A : Option Addr) (c p : Nat) (h : RR w b ts A c p false t ex) (h2 : (here (ts.drop p)).k ≠ 2) (h3 : (here (ts.drop p)).k ≠ 3) (h4 : (here (ts.drop p)).k ≠ 4) (za : isD false ⟨#[110, 117, 108, 108]⟩ (ts.drop p) = false) (zb : isD false ⟨#[116, 114, 117, 101]⟩ (ts.drop p) = false) (ye : isS (⟨#[102, 97, 108, 115, 101]⟩ : ByteArray).data.toList (ts.drop p) = true) :
    Calls Tryz.prog 72 #[.pointer (some ⟨b, 0, none⟩)] w (Rq ts b A c p t ex w (fun k => w.heap.size ≤ k) (okX (lit ⟨1, 0, []⟩) 1)) := by
  have hp := h.hp
  have hlen := hT.len
  have e2 : ((here (ts.drop p)).k == 2) = false := by simpa using h2
  have e3 : ((here (ts.drop p)).k == 3) = false := by simpa using h3
  have e4 : ((here (ts.drop p)).k == 4) = false := by simpa using h4
  have HT := Lib.hid hT
  clear h2 h3 h4
  obtain ⟨W1, hW1, I1⟩ := Inv.start h
  have HH := Lib.hid (rHere hT.len W1 b A c p false t ex I1.out.R)
  generalize here (ts.drop p) = u at *
  obtain ⟨uk, us, ui, up⟩ := u
  simp only [T.val] at *
  have HW1 := Lib.hid hW1
  have hbw := h.lt
  clear hW1 h hT
  go_enter Tryz.func72, Tryz.ntmps72
  go_wp2_with (rw [← HW1.out])
  refine (HH.out).mono ?_
  rintro r w2 ⟨rfl, b2⟩
  obtain ⟨W2, hW2, T2, m2⟩ := tbox w2 uk ui (str us) up
  have I2 := Lib.hid ((I1.out.later b2).later m2)
  have HW2 := Lib.hid hW2
  have hw2 : w.heap.size < w2.heap.size := Nat.lt_of_lt_of_le I1.out.lt2 b2.size
  have hw3 : w2.heap.size < W2.heap.size := (Array.getElem?_eq_some_iff.1 T2.out).1
  have k0 : W2.cell? ⟨w2.heap.size, 0, none⟩ = some (.int .i64 uk) := by rw [Lib.cell_of_heap T2.out]; rfl
  have k1 : W2.cell? ⟨w2.heap.size, 1, none⟩ = some (.string (str us)) := by rw [Lib.cell_of_heap T2.out]; rfl
  have k2 : W2.cell? ⟨w2.heap.size, 2, none⟩ = some (.int .i64 ui) := by rw [Lib.cell_of_heap T2.out]; rfl
  obtain ⟨c0, c1, c2, f1, f2⟩ := I2.out.R.cells
  clear hW2 m2 b2 I1 HH HW1
  go_wp2_with (rw [← HW2.out])
  refine (rEatF HT.out ⟨#[110, 117, 108, 108]⟩ W2 b A c p t ex false I2.out.R za).mono ?_
  rintro r w3 ⟨rfl, R3, b3⟩
  have I3 := Lib.hid (I2.out.but b3 R3)
  clear b3 R3
  go_wp2_with fail
  refine (rEatF HT.out ⟨#[116, 114, 117, 101]⟩ w3 b A c p t ex false I3.out.R zb).mono ?_
  rintro r w4 ⟨rfl, R4, b4⟩
  have I4 := Lib.hid (I3.out.but b4 R4)
  clear b4 R4
  go_wp2_with fail
  refine (rEatT HT.out ⟨#[102, 97, 108, 115, 101]⟩ w4 b A c p t ex I4.out.R ye).mono ?_
  rintro r w5 ⟨rfl, R5, b5⟩
  have I5 := Lib.hid (I4.out.but b5 R5)
  clear b5 R5
  go_wp2_with fail
  refine (rFalse1 _).mono ?_
  rintro r w6 ⟨rfl, b6⟩
  have I6 := Lib.hid (I5.out.later b6)
  clear b6
  go_wp2_with fail
  refine (rLit _ _ _ _).mono ?_
  rintro r w7 ⟨rfl, b7⟩
  have I7 := Lib.hid (I6.out.later b7)
  clear b7
  obtain ⟨W9, hW9, q9, HR9, HG9, HB9⟩ := I7.out.put (show Got w7 (fun k => w.heap.size < k) (lit ⟨1, 0, []⟩) false (.agg #[.string ⟨#[108, 105, 116]⟩, .int .i64 1, .int .i64 0, .string ⟨#[]⟩, .string ⟨#[]⟩, .string ⟨#[]⟩, .slice none 0 0]) from rgot_lit false wLit ⟨1, 0, []⟩ [] [])
  have HW9 := Lib.hid hW9
  obtain ⟨x0, x1, x2, x3, x4, x5, x6⟩ := I7.out.q.cells
  obtain ⟨g0, g1, g2, g3, g4, g5, g6⟩ := I7.out.q.free
  obtain ⟨l0, l1, l2, l3, l4, l5, l6⟩ := q9.cells
  clear hW9 q9
  go_wp2_with (rw [← HW9.out])
  exact bodyPost_ret (v := .agg #[.string ⟨#[108, 105, 116]⟩, .int .i64 1, .int .i64 0, .string ⟨#[]⟩, .string ⟨#[]⟩, .string ⟨#[]⟩, .slice none 0 0]) (by simp [results, Tryz.results72, go_sem, l0, l1, l2, l3, l4, l5, l6]) rfl ⟨⟨_, rfl, HG9.out, HR9.out⟩, HB9.out⟩
set_option maxRecDepth 100000 in
set_option maxHeartbeats 8000000 in
theorem prim_par_ok {ts : List T} (hT : Toks ts) (t : TypeId) (ex : List Value) (v : Nat) (H1 : LineH ts t ex v 1) (a : E) (m : Nat) (w : World) (b : Nat) (A : Option Addr) (c p : Nat) (h : RR w b ts A c p false t ex) (h2 : (here (ts.drop p)).k ≠ 2) (h3 : (here (ts.drop p)).k ≠ 3) (h4 : (here (ts.drop p)).k ≠ 4) (za : isD false ⟨#[110, 117, 108, 108]⟩ (ts.drop p) = false) (zb : isD false ⟨#[116, 114, 117, 101]⟩ (ts.drop p) = false) (ze : isD false ⟨#[102, 97, 108, 115, 101]⟩ (ts.drop p) = false) (yf : isS (⟨#[40]⟩ : ByteArray).data.toList (ts.drop p) = true) (hr : rank ts (p + 1) false ≤ v) (hx : ln resB 1 (ts.drop (p + 1)) = .ok (a, m)) (hn : isS (⟨#[41]⟩ : ByteArray).data.toList (ts.drop (p + 1 + m)) = true) :
    Calls Tryz.prog 72 #[.pointer (some ⟨b, 0, none⟩)] w (Rq ts b A c p t ex w (fun k => w.heap.size ≤ k) (okX a (1 + (m + (1 + 0))))) := by
  have hp := h.hp
  have hlen := hT.len
  have e2 : ((here (ts.drop p)).k == 2) = false := by simpa using h2
  have e3 : ((here (ts.drop p)).k == 3) = false := by simpa using h3
  have e4 : ((here (ts.drop p)).k == 4) = false := by simpa using h4
  have HT := Lib.hid hT
  clear h2 h3 h4
  obtain ⟨W1, hW1, I1⟩ := Inv.start h
  have HH := Lib.hid (rHere hT.len W1 b A c p false t ex I1.out.R)
  generalize here (ts.drop p) = u at *
  obtain ⟨uk, us, ui, up⟩ := u
  simp only [T.val] at *
  have HW1 := Lib.hid hW1
  have hbw := h.lt
  clear hW1 h hT
  go_enter Tryz.func72, Tryz.ntmps72
  go_wp2_with (rw [← HW1.out])
  refine (HH.out).mono ?_
  rintro r w2 ⟨rfl, b2⟩
  obtain ⟨W2, hW2, T2, m2⟩ := tbox w2 uk ui (str us) up
  have I2 := Lib.hid ((I1.out.later b2).later m2)
  have HW2 := Lib.hid hW2
  have hw2 : w.heap.size < w2.heap.size := Nat.lt_of_lt_of_le I1.out.lt2 b2.size
  have hw3 : w2.heap.size < W2.heap.size := (Array.getElem?_eq_some_iff.1 T2.out).1
  have k0 : W2.cell? ⟨w2.heap.size, 0, none⟩ = some (.int .i64 uk) := by rw [Lib.cell_of_heap T2.out]; rfl
  have k1 : W2.cell? ⟨w2.heap.size, 1, none⟩ = some (.string (str us)) := by rw [Lib.cell_of_heap T2.out]; rfl
  have k2 : W2.cell? ⟨w2.heap.size, 2, none⟩ = some (.int .i64 ui) := by rw [Lib.cell_of_heap T2.out]; rfl
  obtain ⟨c0, c1, c2, f1, f2⟩ := I2.out.R.cells
  clear hW2 m2 b2 I1 HH HW1
  go_wp2_with (rw [← HW2.out])
  refine (rEatF HT.out ⟨#[110, 117, 108, 108]⟩ W2 b A c p t ex false I2.out.R za).mono ?_
  rintro r w3 ⟨rfl, R3, b3⟩
  have I3 := Lib.hid (I2.out.but b3 R3)
  clear b3 R3
  go_wp2_with fail
  refine (rEatF HT.out ⟨#[116, 114, 117, 101]⟩ w3 b A c p t ex false I3.out.R zb).mono ?_
  rintro r w4 ⟨rfl, R4, b4⟩
  have I4 := Lib.hid (I3.out.but b4 R4)
  clear b4 R4
  go_wp2_with fail
  refine (rEatF HT.out ⟨#[102, 97, 108, 115, 101]⟩ w4 b A c p t ex false I4.out.R ze).mono ?_
  rintro r w5 ⟨rfl, R5, b5⟩
  have I5 := Lib.hid (I4.out.but b5 R5)
  clear b5 R5
  go_wp2_with fail
  refine (rEatT HT.out ⟨#[40]⟩ w5 b A c p t ex I5.out.R yf).mono ?_
  rintro r w6 ⟨rfl, R6, b6⟩
  have I6 := Lib.hid (I5.out.but b6 R6)
  clear b6 R6
  go_wp2_with fail
  have HL := H1 (p + 1) false w6 b A c I6.out.R hr
  rw [hx] at HL
  refine (HL).mono ?_
  rintro r w7 ⟨⟨y, rfl, G7, R7⟩, b7⟩
  change Got w7 _ a false y at G7
  change RR w7 b ts A c (p + 1 + m) false t ex at R7
  have hz7 := I6.out.lt2
  have hz7b := b7.size
  have I7 := Lib.hid (I6.out.but b7 R7)
  obtain ⟨s0, i1, i2, s3, s4, s5, A9, n9, c9, rfl⟩ := G7.agg
  obtain ⟨WB, hWB, qB, zB, mB⟩ := box7 w7 (.string s0) (.int .i64 i1) (.int .i64 i2) (.string s3) (.string s4) (.string s5) (.slice A9 n9 c9)
  have IB := Lib.hid (I7.out.later mB)
  have GB := Lib.hid ((G7.wide (S' := fun k => w.heap.size < k) (fun k hk _ => by omega)).later mB)
  have HWB := Lib.hid hWB
  have QB := Lib.hid qB
  have hlB := qB.lt
  clear hWB qB zB mB b7 R7 G7 HL H1
  go_wp2_with (rw [← HWB.out])
  refine (rNeedT HT.out ⟨#[41]⟩ WB b A c (p + 1 + m) t ex IB.out.R hn).mono ?_
  rintro r w8 ⟨rfl, R8, b8⟩
  have hbne : w7.heap.size ≠ b := by have := IB.out.lt; have := IB.out.lt2; omega
  have IE := Lib.hid (IB.out.but b8 R8)
  have GE := Lib.hid ((GB.out.but b8 (fun k hk => by have := IB.out.lt; omega)).more (d' := false) (fun h => h))
  obtain ⟨v0, v1, v2, v3, v4, v5, v6⟩ := (b8.seven QB.out hbne).cells
  clear b8 R8 GB IB QB
  obtain ⟨W9, hW9, q9, HR9, HG9, HB9⟩ := IE.out.put (GE.out)
  have HW9 := Lib.hid hW9
  obtain ⟨x0, x1, x2, x3, x4, x5, x6⟩ := IE.out.q.cells
  obtain ⟨g0, g1, g2, g3, g4, g5, g6⟩ := IE.out.q.free
  obtain ⟨l0, l1, l2, l3, l4, l5, l6⟩ := q9.cells
  clear hW9 q9
  go_wp2_with (rw [← HW9.out])
  exact bodyPost_ret (v := .agg #[.string s0, .int .i64 i1, .int .i64 i2, .string s3, .string s4, .string s5, .slice A9 n9 c9]) (by simp [results, Tryz.results72, go_sem, l0, l1, l2, l3, l4, l5, l6]) rfl ⟨⟨_, rfl, HG9.out, HR9.out.eqp (by show _ = p + (1 + (m + (1 + 0))); omega)⟩, HB9.out⟩
set_option maxRecDepth 100000 in
set_option maxHeartbeats 8000000 in
theorem prim_par_no {ts : List T} (hT : Toks ts) (t : TypeId) (ex : List Value) (v : Nat) (H1 : LineH ts t ex v 1) (a : E) (m : Nat) (w : World) (b : Nat) (A : Option Addr) (c p : Nat) (h : RR w b ts A c p false t ex) (h2 : (here (ts.drop p)).k ≠ 2) (h3 : (here (ts.drop p)).k ≠ 3) (h4 : (here (ts.drop p)).k ≠ 4) (za : isD false ⟨#[110, 117, 108, 108]⟩ (ts.drop p) = false) (zb : isD false ⟨#[116, 114, 117, 101]⟩ (ts.drop p) = false) (ze : isD false ⟨#[102, 97, 108, 115, 101]⟩ (ts.drop p) = false) (yf : isS (⟨#[40]⟩ : ByteArray).data.toList (ts.drop p) = true) (hr : rank ts (p + 1) false ≤ v) (hx : ln resB 1 (ts.drop (p + 1)) = .ok (a, m)) (hn : isD false ⟨#[41]⟩ (ts.drop (p + 1 + m)) = false) :
    Calls Tryz.prog 72 #[.pointer (some ⟨b, 0, none⟩)] w (Rq ts b A c p t ex w (fun k => w.heap.size ≤ k) (badX (1 + (m + 0)))) := by
  have hp := h.hp
  have hlen := hT.len
  have e2 : ((here (ts.drop p)).k == 2) = false := by simpa using h2
  have e3 : ((here (ts.drop p)).k == 3) = false := by simpa using h3
  have e4 : ((here (ts.drop p)).k == 4) = false := by simpa using h4
  have HT := Lib.hid hT
  clear h2 h3 h4
  obtain ⟨W1, hW1, I1⟩ := Inv.start h
  have HH := Lib.hid (rHere hT.len W1 b A c p false t ex I1.out.R)
  generalize here (ts.drop p) = u at *
  obtain ⟨uk, us, ui, up⟩ := u
  simp only [T.val] at *
  have HW1 := Lib.hid hW1
  have hbw := h.lt
  clear hW1 h hT
  go_enter Tryz.func72, Tryz.ntmps72
  go_wp2_with (rw [← HW1.out])
  refine (HH.out).mono ?_
  rintro r w2 ⟨rfl, b2⟩
  obtain ⟨W2, hW2, T2, m2⟩ := tbox w2 uk ui (str us) up
  have I2 := Lib.hid ((I1.out.later b2).later m2)
  have HW2 := Lib.hid hW2
  have hw2 : w.heap.size < w2.heap.size := Nat.lt_of_lt_of_le I1.out.lt2 b2.size
  have hw3 : w2.heap.size < W2.heap.size := (Array.getElem?_eq_some_iff.1 T2.out).1
  have k0 : W2.cell? ⟨w2.heap.size, 0, none⟩ = some (.int .i64 uk) := by rw [Lib.cell_of_heap T2.out]; rfl
  have k1 : W2.cell? ⟨w2.heap.size, 1, none⟩ = some (.string (str us)) := by rw [Lib.cell_of_heap T2.out]; rfl
  have k2 : W2.cell? ⟨w2.heap.size, 2, none⟩ = some (.int .i64 ui) := by rw [Lib.cell_of_heap T2.out]; rfl
  obtain ⟨c0, c1, c2, f1, f2⟩ := I2.out.R.cells
  clear hW2 m2 b2 I1 HH HW1
  go_wp2_with (rw [← HW2.out])
  refine (rEatF HT.out ⟨#[110, 117, 108, 108]⟩ W2 b A c p t ex false I2.out.R za).mono ?_
  rintro r w3 ⟨rfl, R3, b3⟩
  have I3 := Lib.hid (I2.out.but b3 R3)
  clear b3 R3
  go_wp2_with fail
  refine (rEatF HT.out ⟨#[116, 114, 117, 101]⟩ w3 b A c p t ex false I3.out.R zb).mono ?_
  rintro r w4 ⟨rfl, R4, b4⟩
  have I4 := Lib.hid (I3.out.but b4 R4)
  clear b4 R4
  go_wp2_with fail
  refine (rEatF HT.out ⟨#[102, 97, 108, 115, 101]⟩ w4 b A c p t ex false I4.out.R ze).mono ?_
  rintro r w5 ⟨rfl, R5, b5⟩
  have I5 := Lib.hid (I4.out.but b5 R5)
  clear b5 R5
  go_wp2_with fail
  refine (rEatT HT.out ⟨#[40]⟩ w5 b A c p t ex I5.out.R yf).mono ?_
  rintro r w6 ⟨rfl, R6, b6⟩
  have I6 := Lib.hid (I5.out.but b6 R6)
  clear b6 R6
  go_wp2_with fail
  have HL := H1 (p + 1) false w6 b A c I6.out.R hr
  rw [hx] at HL
  refine (HL).mono ?_
  rintro r w7 ⟨⟨y, rfl, G7, R7⟩, b7⟩
  change Got w7 _ a false y at G7
  change RR w7 b ts A c (p + 1 + m) false t ex at R7
  have hz7 := I6.out.lt2
  have hz7b := b7.size
  have I7 := Lib.hid (I6.out.but b7 R7)
  obtain ⟨s0, i1, i2, s3, s4, s5, A9, n9, c9, rfl⟩ := G7.agg
  obtain ⟨WB, hWB, qB, zB, mB⟩ := box7 w7 (.string s0) (.int .i64 i1) (.int .i64 i2) (.string s3) (.string s4) (.string s5) (.slice A9 n9 c9)
  have IB := Lib.hid (I7.out.later mB)
  have GB := Lib.hid ((G7.wide (S' := fun k => w.heap.size < k) (fun k hk _ => by omega)).later mB)
  have HWB := Lib.hid hWB
  have QB := Lib.hid qB
  have hlB := qB.lt
  clear hWB qB zB mB b7 R7 G7 HL H1
  go_wp2_with (rw [← HWB.out])
  refine (rNeedF HT.out ⟨#[41]⟩ WB b A c (p + 1 + m) t ex false IB.out.R hn).mono ?_
  rintro r w8 ⟨rfl, R8, b8⟩
  have hbne : w7.heap.size ≠ b := by have := IB.out.lt; have := IB.out.lt2; omega
  have IE := Lib.hid (IB.out.but b8 R8)
  have GE := Lib.hid ((GB.out.but b8 (fun k hk => by have := IB.out.lt; omega)).more (d' := true) (fun h => by cases h))
  obtain ⟨v0, v1, v2, v3, v4, v5, v6⟩ := (b8.seven QB.out hbne).cells
  clear b8 R8 GB IB QB
  obtain ⟨W9, hW9, q9, HR9, HG9, HB9⟩ := IE.out.put (GE.out)
  have HW9 := Lib.hid hW9
  obtain ⟨x0, x1, x2, x3, x4, x5, x6⟩ := IE.out.q.cells
  obtain ⟨g0, g1, g2, g3, g4, g5, g6⟩ := IE.out.q.free
  obtain ⟨l0, l1, l2, l3, l4, l5, l6⟩ := q9.cells
  clear hW9 q9
  go_wp2_with (rw [← HW9.out])
  exact bodyPost_ret (v := .agg #[.string s0, .int .i64 i1, .int .i64 i2, .string s3, .string s4, .string s5, .slice A9 n9 c9]) (by simp [results, Tryz.results72, go_sem, l0, l1, l2, l3, l4, l5, l6]) rfl ⟨⟨_, rfl, HG9.out.bad _, HR9.out.eqp (by show _ = p + ((1 + (m + 0))); omega)⟩, HB9.out⟩
set_option maxRecDepth 100000 in
set_option maxHeartbeats 8000000 in
theorem prim_par_bad {ts : List T} (hT : Toks ts) (t : TypeId) (ex : List Value) (v : Nat) (H1 : LineH ts t ex v 1) (q : Nat) (w : World) (b : Nat) (A : Option Addr) (c p : Nat) (h : RR w b ts A c p false t ex) (h2 : (here (ts.drop p)).k ≠ 2) (h3 : (here (ts.drop p)).k ≠ 3) (h4 : (here (ts.drop p)).k ≠ 4) (za : isD false ⟨#[110, 117, 108, 108]⟩ (ts.drop p) = false) (zb : isD false ⟨#[116, 114, 117, 101]⟩ (ts.drop p) = false) (ze : isD false ⟨#[102, 97, 108, 115, 101]⟩ (ts.drop p) = false) (yf : isS (⟨#[40]⟩ : ByteArray).data.toList (ts.drop p) = true) (hr : rank ts (p + 1) false ≤ v) (hx : ln resB 1 (ts.drop (p + 1)) = .error q) :
    Calls Tryz.prog 72 #[.pointer (some ⟨b, 0, none⟩)] w (Rq ts b A c p t ex w (fun k => w.heap.size ≤ k) (badX (1 + q))) := by
  have hp := h.hp
  have hlen := hT.len
  have e2 : ((here (ts.drop p)).k == 2) = false := by simpa using h2
  have e3 : ((here (ts.drop p)).k == 3) = false := by simpa using h3
  have e4 : ((here (ts.drop p)).k == 4) = false := by simpa using h4
  have HT := Lib.hid hT
  clear h2 h3 h4
  obtain ⟨W1, hW1, I1⟩ := Inv.start h
  have HH := Lib.hid (rHere hT.len W1 b A c p false t ex I1.out.R)
  generalize here (ts.drop p) = u at *
  obtain ⟨uk, us, ui, up⟩ := u
  simp only [T.val] at *
  have HW1 := Lib.hid hW1
  have hbw := h.lt
  clear hW1 h hT
  go_enter Tryz.func72, Tryz.ntmps72
  go_wp2_with (rw [← HW1.out])
  refine (HH.out).mono ?_
  rintro r w2 ⟨rfl, b2⟩
  obtain ⟨W2, hW2, T2, m2⟩ := tbox w2 uk ui (str us) up
  have I2 := Lib.hid ((I1.out.later b2).later m2)
  have HW2 := Lib.hid hW2
  have hw2 : w.heap.size < w2.heap.size := Nat.lt_of_lt_of_le I1.out.lt2 b2.size
  have hw3 : w2.heap.size < W2.heap.size := (Array.getElem?_eq_some_iff.1 T2.out).1
  have k0 : W2.cell? ⟨w2.heap.size, 0, none⟩ = some (.int .i64 uk) := by rw [Lib.cell_of_heap T2.out]; rfl
  have k1 : W2.cell? ⟨w2.heap.size, 1, none⟩ = some (.string (str us)) := by rw [Lib.cell_of_heap T2.out]; rfl
  have k2 : W2.cell? ⟨w2.heap.size, 2, none⟩ = some (.int .i64 ui) := by rw [Lib.cell_of_heap T2.out]; rfl
  obtain ⟨c0, c1, c2, f1, f2⟩ := I2.out.R.cells
  clear hW2 m2 b2 I1 HH HW1
  go_wp2_with (rw [← HW2.out])
  refine (rEatF HT.out ⟨#[110, 117, 108, 108]⟩ W2 b A c p t ex false I2.out.R za).mono ?_
  rintro r w3 ⟨rfl, R3, b3⟩
  have I3 := Lib.hid (I2.out.but b3 R3)
  clear b3 R3
  go_wp2_with fail
  refine (rEatF HT.out ⟨#[116, 114, 117, 101]⟩ w3 b A c p t ex false I3.out.R zb).mono ?_
  rintro r w4 ⟨rfl, R4, b4⟩
  have I4 := Lib.hid (I3.out.but b4 R4)
  clear b4 R4
  go_wp2_with fail
  refine (rEatF HT.out ⟨#[102, 97, 108, 115, 101]⟩ w4 b A c p t ex false I4.out.R ze).mono ?_
  rintro r w5 ⟨rfl, R5, b5⟩
  have I5 := Lib.hid (I4.out.but b5 R5)
  clear b5 R5
  go_wp2_with fail
  refine (rEatT HT.out ⟨#[40]⟩ w5 b A c p t ex I5.out.R yf).mono ?_
  rintro r w6 ⟨rfl, R6, b6⟩
  have I6 := Lib.hid (I5.out.but b6 R6)
  clear b6 R6
  go_wp2_with fail
  have HL := H1 (p + 1) false w6 b A c I6.out.R hr
  rw [hx] at HL
  refine (HL).mono ?_
  rintro r w7 ⟨⟨y, rfl, G7, R7⟩, b7⟩
  change Got w7 _ e0 true y at G7
  change RR w7 b ts A c (p + 1 + q) true t ex at R7
  have hz7 := I6.out.lt2
  have hz7b := b7.size
  have I7 := Lib.hid (I6.out.but b7 R7)
  obtain ⟨s0, i1, i2, s3, s4, s5, A9, n9, c9, rfl⟩ := G7.agg
  obtain ⟨WB, hWB, qB, zB, mB⟩ := box7 w7 (.string s0) (.int .i64 i1) (.int .i64 i2) (.string s3) (.string s4) (.string s5) (.slice A9 n9 c9)
  have IB := Lib.hid (I7.out.later mB)
  have GB := Lib.hid ((G7.wide (S' := fun k => w.heap.size < k) (fun k hk _ => by omega)).later mB)
  have HWB := Lib.hid hWB
  have QB := Lib.hid qB
  have hlB := qB.lt
  clear hWB qB zB mB b7 R7 G7 HL H1
  go_wp2_with (rw [← HWB.out])
  refine (rNeedF HT.out ⟨#[41]⟩ WB b A c (p + 1 + q) t ex true IB.out.R rfl).mono ?_
  rintro r w8 ⟨rfl, R8, b8⟩
  have hbne : w7.heap.size ≠ b := by have := IB.out.lt; have := IB.out.lt2; omega
  have IE := Lib.hid (IB.out.but b8 R8)
  have GE := Lib.hid ((GB.out.but b8 (fun k hk => by have := IB.out.lt; omega)).more (d' := true) (fun h => by cases h))
  obtain ⟨v0, v1, v2, v3, v4, v5, v6⟩ := (b8.seven QB.out hbne).cells
  clear b8 R8 GB IB QB
  obtain ⟨W9, hW9, q9, HR9, HG9, HB9⟩ := IE.out.put (GE.out)
  have HW9 := Lib.hid hW9
  obtain ⟨x0, x1, x2, x3, x4, x5, x6⟩ := IE.out.q.cells
  obtain ⟨g0, g1, g2, g3, g4, g5, g6⟩ := IE.out.q.free
  obtain ⟨l0, l1, l2, l3, l4, l5, l6⟩ := q9.cells
  clear hW9 q9
  go_wp2_with (rw [← HW9.out])
  exact bodyPost_ret (v := .agg #[.string s0, .int .i64 i1, .int .i64 i2, .string s3, .string s4, .string s5, .slice A9 n9 c9]) (by simp [results, Tryz.results72, go_sem, l0, l1, l2, l3, l4, l5, l6]) rfl ⟨⟨_, rfl, HG9.out.bad _, HR9.out.eqp (by show _ = p + ((1 + q)); omega)⟩, HB9.out⟩
end Go.Proofs.YthohfegnphocbaaGreatDoor
namespace Go.Proofs.YthohfegnphocbaaGreatDoor
open Go.RowKit
set_option maxRecDepth 100000 in
set_option maxHeartbeats 8000000 in
theorem prim_low {ts : List T} (hT : Toks ts) (t : TypeId) (ex : List Value) (w : World) (b : Nat) (A : Option Addr) (c p : Nat) (h : RR w b ts A c p false t ex) (h2 : (here (ts.drop p)).k = 2) (hi : (here (ts.drop p)).i < 0) (za : isD false ⟨#[110, 117, 108, 108]⟩ (ts.drop p) = false) (zb : isD false ⟨#[116, 114, 117, 101]⟩ (ts.drop p) = false) (ze : isD false ⟨#[102, 97, 108, 115, 101]⟩ (ts.drop p) = false) (zf : isD false ⟨#[40]⟩ (ts.drop p) = false) (hn : (!false && isNm resB (ts.drop p)) = false) :
    Calls Tryz.prog 72 #[.pointer (some ⟨b, 0, none⟩)] w (Rq ts b A c p t ex w (fun k => w.heap.size ≤ k) (badX 0)) := by
  have hp := h.hp
  have hlen := hT.len
  have e2 : ((here (ts.drop p)).k == 2) = true := by simpa using h2
  have e2b : ¬ (0 : Int) ≤ (here (ts.drop p)).i := by omega
  have HT := Lib.hid hT
  clear h2
  obtain ⟨W1, hW1, I1⟩ := Inv.start h
  have HH := Lib.hid (rHere hT.len W1 b A c p false t ex I1.out.R)
  generalize here (ts.drop p) = u at *
  obtain ⟨uk, us, ui, up⟩ := u
  simp only [T.val] at *
  have HW1 := Lib.hid hW1
  have hbw := h.lt
  clear hW1 h hT
  go_enter Tryz.func72, Tryz.ntmps72
  go_wp2_with (rw [← HW1.out])
  refine (HH.out).mono ?_
  rintro r w2 ⟨rfl, b2⟩
  obtain ⟨W2, hW2, T2, m2⟩ := tbox w2 uk ui (str us) up
  have I2 := Lib.hid ((I1.out.later b2).later m2)
  have HW2 := Lib.hid hW2
  have hw2 : w.heap.size < w2.heap.size := Nat.lt_of_lt_of_le I1.out.lt2 b2.size
  have hw3 : w2.heap.size < W2.heap.size := (Array.getElem?_eq_some_iff.1 T2.out).1
  have k0 : W2.cell? ⟨w2.heap.size, 0, none⟩ = some (.int .i64 uk) := by rw [Lib.cell_of_heap T2.out]; rfl
  have k1 : W2.cell? ⟨w2.heap.size, 1, none⟩ = some (.string (str us)) := by rw [Lib.cell_of_heap T2.out]; rfl
  have k2 : W2.cell? ⟨w2.heap.size, 2, none⟩ = some (.int .i64 ui) := by rw [Lib.cell_of_heap T2.out]; rfl
  obtain ⟨c0, c1, c2, f1, f2⟩ := I2.out.R.cells
  clear hW2 m2 b2 I1 HH HW1
  have e2c : uk = 2 := by simpa using e2
  subst e2c
  have e2d : ¬ (0 : Int) ≤ ui := by omega
  go_wp2_with (rw [← HW2.out])
  refine (rEatF HT.out ⟨#[110, 117, 108, 108]⟩ W2 b A c p t ex false I2.out.R za).mono ?_
  rintro r w3 ⟨rfl, R3, b3⟩
  have I3 := Lib.hid (I2.out.but b3 R3)
  clear b3 R3
  go_wp2_with fail
  refine (rEatF HT.out ⟨#[116, 114, 117, 101]⟩ w3 b A c p t ex false I3.out.R zb).mono ?_
  rintro r w4 ⟨rfl, R4, b4⟩
  have I4 := Lib.hid (I3.out.but b4 R4)
  clear b4 R4
  go_wp2_with fail
  refine (rEatF HT.out ⟨#[102, 97, 108, 115, 101]⟩ w4 b A c p t ex false I4.out.R ze).mono ?_
  rintro r w5 ⟨rfl, R5, b5⟩
  have I5 := Lib.hid (I4.out.but b5 R5)
  clear b5 R5
  go_wp2_with fail
  refine (rEatF HT.out ⟨#[40]⟩ w5 b A c p t ex false I5.out.R zf).mono ?_
  rintro r w6 ⟨rfl, R6, b6⟩
  have I6 := Lib.hid (I5.out.but b6 R6)
  clear b6 R6
  go_wp2_with fail
  refine (rNameF HT.out w6 b A c p t ex false I6.out.R hn).mono ?_
  rintro r w7 ⟨rfl, R7, b7⟩
  have I7 := Lib.hid (I6.out.but b7 R7)
  clear b7 R7
  go_wp2_with fail
  refine (rEatF HT.out ⟨#[46]⟩ w7 b A c p t ex true I7.out.R rfl).mono ?_
  rintro r w8 ⟨rfl, R8, b8⟩
  have I8 := Lib.hid (I7.out.but b8 R8)
  clear b8 R8
  go_wp2_with fail
  refine (rEatF HT.out ⟨#[40]⟩ w8 b A c p t ex true I8.out.R rfl).mono ?_
  rintro r w9 ⟨rfl, R9, b9⟩
  have I9 := Lib.hid (I8.out.but b9 R9)
  clear b9 R9
  go_wp2_with fail
  refine (rCol _ _ _).mono ?_
  rintro r w10 ⟨rfl, b10⟩
  have I10 := Lib.hid (I9.out.later b10)
  clear b10
  obtain ⟨W9, hW9, q9, HR9, HG9, HB9⟩ := I10.out.put (show Got w10 (fun k => w.heap.size < k) (col [] []) true (.agg #[.string ⟨#[99, 111, 108]⟩, .int .i64 0, .int .i64 0, .string ⟨#[]⟩, .string ⟨#[]⟩, .string ⟨#[]⟩, .slice none 0 0]) from rgot_lit true wCol v0 [] [])
  have HW9 := Lib.hid hW9
  obtain ⟨x0, x1, x2, x3, x4, x5, x6⟩ := I10.out.q.cells
  obtain ⟨g0, g1, g2, g3, g4, g5, g6⟩ := I10.out.q.free
  obtain ⟨l0, l1, l2, l3, l4, l5, l6⟩ := q9.cells
  clear hW9 q9
  go_wp2_with (rw [← HW9.out])
  exact bodyPost_ret (v := .agg #[.string ⟨#[99, 111, 108]⟩, .int .i64 0, .int .i64 0, .string ⟨#[]⟩, .string ⟨#[]⟩, .string ⟨#[]⟩, .slice none 0 0]) (by simp [results, Tryz.results72, go_sem, l0, l1, l2, l3, l4, l5, l6]) rfl ⟨⟨_, rfl, HG9.out.bad _, HR9.out.eqp (by show _ = p + (0); omega)⟩, HB9.out⟩
set_option maxRecDepth 100000 in
set_option maxHeartbeats 8000000 in
theorem prim_none {ts : List T} (hT : Toks ts) (t : TypeId) (ex : List Value) (w : World) (b : Nat) (A : Option Addr) (c p : Nat) (h : RR w b ts A c p false t ex) (h2 : (here (ts.drop p)).k ≠ 2) (h3 : (here (ts.drop p)).k ≠ 3) (h4 : (here (ts.drop p)).k ≠ 4) (za : isD false ⟨#[110, 117, 108, 108]⟩ (ts.drop p) = false) (zb : isD false ⟨#[116, 114, 117, 101]⟩ (ts.drop p) = false) (ze : isD false ⟨#[102, 97, 108, 115, 101]⟩ (ts.drop p) = false) (zf : isD false ⟨#[40]⟩ (ts.drop p) = false) (hn : (!false && isNm resB (ts.drop p)) = false) :
    Calls Tryz.prog 72 #[.pointer (some ⟨b, 0, none⟩)] w (Rq ts b A c p t ex w (fun k => w.heap.size ≤ k) (badX 0)) := by
  have hp := h.hp
  have hlen := hT.len
  have e2 : ((here (ts.drop p)).k == 2) = false := by simpa using h2
  have e3 : ((here (ts.drop p)).k == 3) = false := by simpa using h3
  have e4 : ((here (ts.drop p)).k == 4) = false := by simpa using h4
  have HT := Lib.hid hT
  clear h2 h3 h4
  obtain ⟨W1, hW1, I1⟩ := Inv.start h
  have HH := Lib.hid (rHere hT.len W1 b A c p false t ex I1.out.R)
  generalize here (ts.drop p) = u at *
  obtain ⟨uk, us, ui, up⟩ := u
  simp only [T.val] at *
  have HW1 := Lib.hid hW1
  have hbw := h.lt
  clear hW1 h hT
  go_enter Tryz.func72, Tryz.ntmps72
  go_wp2_with (rw [← HW1.out])
  refine (HH.out).mono ?_
  rintro r w2 ⟨rfl, b2⟩
  obtain ⟨W2, hW2, T2, m2⟩ := tbox w2 uk ui (str us) up
  have I2 := Lib.hid ((I1.out.later b2).later m2)
  have HW2 := Lib.hid hW2
  have hw2 : w.heap.size < w2.heap.size := Nat.lt_of_lt_of_le I1.out.lt2 b2.size
  have hw3 : w2.heap.size < W2.heap.size := (Array.getElem?_eq_some_iff.1 T2.out).1
  have k0 : W2.cell? ⟨w2.heap.size, 0, none⟩ = some (.int .i64 uk) := by rw [Lib.cell_of_heap T2.out]; rfl
  have k1 : W2.cell? ⟨w2.heap.size, 1, none⟩ = some (.string (str us)) := by rw [Lib.cell_of_heap T2.out]; rfl
  have k2 : W2.cell? ⟨w2.heap.size, 2, none⟩ = some (.int .i64 ui) := by rw [Lib.cell_of_heap T2.out]; rfl
  obtain ⟨c0, c1, c2, f1, f2⟩ := I2.out.R.cells
  clear hW2 m2 b2 I1 HH HW1
  go_wp2_with (rw [← HW2.out])
  refine (rEatF HT.out ⟨#[110, 117, 108, 108]⟩ W2 b A c p t ex false I2.out.R za).mono ?_
  rintro r w3 ⟨rfl, R3, b3⟩
  have I3 := Lib.hid (I2.out.but b3 R3)
  clear b3 R3
  go_wp2_with fail
  refine (rEatF HT.out ⟨#[116, 114, 117, 101]⟩ w3 b A c p t ex false I3.out.R zb).mono ?_
  rintro r w4 ⟨rfl, R4, b4⟩
  have I4 := Lib.hid (I3.out.but b4 R4)
  clear b4 R4
  go_wp2_with fail
  refine (rEatF HT.out ⟨#[102, 97, 108, 115, 101]⟩ w4 b A c p t ex false I4.out.R ze).mono ?_
  rintro r w5 ⟨rfl, R5, b5⟩
  have I5 := Lib.hid (I4.out.but b5 R5)
  clear b5 R5
  go_wp2_with fail
  refine (rEatF HT.out ⟨#[40]⟩ w5 b A c p t ex false I5.out.R zf).mono ?_
  rintro r w6 ⟨rfl, R6, b6⟩
  have I6 := Lib.hid (I5.out.but b6 R6)
  clear b6 R6
  go_wp2_with fail
  refine (rNameF HT.out w6 b A c p t ex false I6.out.R hn).mono ?_
  rintro r w7 ⟨rfl, R7, b7⟩
  have I7 := Lib.hid (I6.out.but b7 R7)
  clear b7 R7
  go_wp2_with fail
  refine (rEatF HT.out ⟨#[46]⟩ w7 b A c p t ex true I7.out.R rfl).mono ?_
  rintro r w8 ⟨rfl, R8, b8⟩
  have I8 := Lib.hid (I7.out.but b8 R8)
  clear b8 R8
  go_wp2_with fail
  refine (rEatF HT.out ⟨#[40]⟩ w8 b A c p t ex true I8.out.R rfl).mono ?_
  rintro r w9 ⟨rfl, R9, b9⟩
  have I9 := Lib.hid (I8.out.but b9 R9)
  clear b9 R9
  go_wp2_with fail
  refine (rCol _ _ _).mono ?_
  rintro r w10 ⟨rfl, b10⟩
  have I10 := Lib.hid (I9.out.later b10)
  clear b10
  obtain ⟨W9, hW9, q9, HR9, HG9, HB9⟩ := I10.out.put (show Got w10 (fun k => w.heap.size < k) (col [] []) true (.agg #[.string ⟨#[99, 111, 108]⟩, .int .i64 0, .int .i64 0, .string ⟨#[]⟩, .string ⟨#[]⟩, .string ⟨#[]⟩, .slice none 0 0]) from rgot_lit true wCol v0 [] [])
  have HW9 := Lib.hid hW9
  obtain ⟨x0, x1, x2, x3, x4, x5, x6⟩ := I10.out.q.cells
  obtain ⟨g0, g1, g2, g3, g4, g5, g6⟩ := I10.out.q.free
  obtain ⟨l0, l1, l2, l3, l4, l5, l6⟩ := q9.cells
  clear hW9 q9
  go_wp2_with (rw [← HW9.out])
  exact bodyPost_ret (v := .agg #[.string ⟨#[99, 111, 108]⟩, .int .i64 0, .int .i64 0, .string ⟨#[]⟩, .string ⟨#[]⟩, .string ⟨#[]⟩, .slice none 0 0]) (by simp [results, Tryz.results72, go_sem, l0, l1, l2, l3, l4, l5, l6]) rfl ⟨⟨_, rfl, HG9.out.bad _, HR9.out.eqp (by show _ = p + (0); omega)⟩, HB9.out⟩
set_option maxRecDepth 100000 in
set_option maxHeartbeats 8000000 in
theorem prim_dot {ts : List T} (hT : Toks ts) (t : TypeId) (ex : List Value) (w : World) (b : Nat) (A : Option Addr) (c p : Nat) (h : RR w b ts A c p false t ex) (h2 : (here (ts.drop p)).k ≠ 2) (h3 : (here (ts.drop p)).k ≠ 3) (h4 : (here (ts.drop p)).k ≠ 4) (za : isD false ⟨#[110, 117, 108, 108]⟩ (ts.drop p) = false) (zb : isD false ⟨#[116, 114, 117, 101]⟩ (ts.drop p) = false) (ze : isD false ⟨#[102, 97, 108, 115, 101]⟩ (ts.drop p) = false) (zf : isD false ⟨#[40]⟩ (ts.drop p) = false) (nm : List UInt8) (hnm : (here (ts.drop p)).s = nm) (hn : isNm resB (ts.drop p) = true) (yd : isS (⟨#[46]⟩ : ByteArray).data.toList (ts.drop (p + 1)) = true) (cm : List UInt8) (hcm : (here (ts.drop (p + 1 + 1))).s = cm) (hn2 : isNm resB (ts.drop (p + 1 + 1)) = true) :
    Calls Tryz.prog 72 #[.pointer (some ⟨b, 0, none⟩)] w (Rq ts b A c p t ex w (fun k => w.heap.size ≤ k) (okX (col nm cm) (1 + (1 + (1 + 0))))) := by
  have hp := h.hp
  have hlen := hT.len
  have e2 : ((here (ts.drop p)).k == 2) = false := by simpa using h2
  have e3 : ((here (ts.drop p)).k == 3) = false := by simpa using h3
  have e4 : ((here (ts.drop p)).k == 4) = false := by simpa using h4
  have HT := Lib.hid hT
  clear h2 h3 h4
  have HNm0 := fun (W : World) (R : RR W b ts A c p false t ex) => rNameT hT W b A c p t ex R hn
  simp only [hnm] at HNm0
  have HNm := Lib.hid HNm0
  clear HNm0 hnm
  have HNc0 := fun (W : World) (R : RR W b ts A c (p + 1 + 1) false t ex) => rNameT hT W b A c (p + 1 + 1) t ex R hn2
  simp only [hcm] at HNc0
  have HNc := Lib.hid HNc0
  clear HNc0 hcm
  obtain ⟨W1, hW1, I1⟩ := Inv.start h
  have HH := Lib.hid (rHere hT.len W1 b A c p false t ex I1.out.R)
  generalize here (ts.drop p) = u at *
  obtain ⟨uk, us, ui, up⟩ := u
  simp only [T.val] at *
  have HW1 := Lib.hid hW1
  have hbw := h.lt
  clear hW1 h hT
  go_enter Tryz.func72, Tryz.ntmps72
  go_wp2_with (rw [← HW1.out])
  refine (HH.out).mono ?_
  rintro r w2 ⟨rfl, b2⟩
  obtain ⟨W2, hW2, T2, m2⟩ := tbox w2 uk ui (str us) up
  have I2 := Lib.hid ((I1.out.later b2).later m2)
  have HW2 := Lib.hid hW2
  have hw2 : w.heap.size < w2.heap.size := Nat.lt_of_lt_of_le I1.out.lt2 b2.size
  have hw3 : w2.heap.size < W2.heap.size := (Array.getElem?_eq_some_iff.1 T2.out).1
  have k0 : W2.cell? ⟨w2.heap.size, 0, none⟩ = some (.int .i64 uk) := by rw [Lib.cell_of_heap T2.out]; rfl
  have k1 : W2.cell? ⟨w2.heap.size, 1, none⟩ = some (.string (str us)) := by rw [Lib.cell_of_heap T2.out]; rfl
  have k2 : W2.cell? ⟨w2.heap.size, 2, none⟩ = some (.int .i64 ui) := by rw [Lib.cell_of_heap T2.out]; rfl
  obtain ⟨c0, c1, c2, f1, f2⟩ := I2.out.R.cells
  clear hW2 m2 b2 I1 HH HW1
  go_wp2_with (rw [← HW2.out])
  refine (rEatF HT.out ⟨#[110, 117, 108, 108]⟩ W2 b A c p t ex false I2.out.R za).mono ?_
  rintro r w3 ⟨rfl, R3, b3⟩
  have I3 := Lib.hid (I2.out.but b3 R3)
  clear b3 R3
  go_wp2_with fail
  refine (rEatF HT.out ⟨#[116, 114, 117, 101]⟩ w3 b A c p t ex false I3.out.R zb).mono ?_
  rintro r w4 ⟨rfl, R4, b4⟩
  have I4 := Lib.hid (I3.out.but b4 R4)
  clear b4 R4
  go_wp2_with fail
  refine (rEatF HT.out ⟨#[102, 97, 108, 115, 101]⟩ w4 b A c p t ex false I4.out.R ze).mono ?_
  rintro r w5 ⟨rfl, R5, b5⟩
  have I5 := Lib.hid (I4.out.but b5 R5)
  clear b5 R5
  go_wp2_with fail
  refine (rEatF HT.out ⟨#[40]⟩ w5 b A c p t ex false I5.out.R zf).mono ?_
  rintro r w6 ⟨rfl, R6, b6⟩
  have I6 := Lib.hid (I5.out.but b6 R6)
  clear b6 R6
  go_wp2_with fail
  refine (HNm.out w6 I6.out.R).mono ?_
  rintro r w7 ⟨rfl, R7, b7⟩
  have I7 := Lib.hid (I6.out.but b7 R7)
  clear b7 R7
  go_wp2_with fail
  refine (rEatT HT.out ⟨#[46]⟩ w7 b A c (p + 1) t ex I7.out.R yd).mono ?_
  rintro r w8 ⟨rfl, R8, b8⟩
  have I8 := Lib.hid (I7.out.but b8 R8)
  clear b8 R8
  go_wp2_with fail
  refine (HNc.out w8 I8.out.R).mono ?_
  rintro r w9 ⟨rfl, R9, b9⟩
  have I9 := Lib.hid (I8.out.but b9 R9)
  clear b9 R9
  go_wp2_with fail
  refine (rCol _ _ _).mono ?_
  rintro r w10 ⟨rfl, b10⟩
  have I10 := Lib.hid (I9.out.later b10)
  clear b10
  obtain ⟨W9, hW9, q9, HR9, HG9, HB9⟩ := I10.out.put (show Got w10 (fun k => w.heap.size < k) (col nm cm) false (.agg #[.string ⟨#[99, 111, 108]⟩, .int .i64 0, .int .i64 0, .string ⟨#[]⟩, .string (str nm), .string (str cm), .slice none 0 0]) from rgot_lit false wCol v0 nm cm)
  have HW9 := Lib.hid hW9
  obtain ⟨x0, x1, x2, x3, x4, x5, x6⟩ := I10.out.q.cells
  obtain ⟨g0, g1, g2, g3, g4, g5, g6⟩ := I10.out.q.free
  obtain ⟨l0, l1, l2, l3, l4, l5, l6⟩ := q9.cells
  clear hW9 q9
  go_wp2_with (rw [← HW9.out])
  exact bodyPost_ret (v := .agg #[.string ⟨#[99, 111, 108]⟩, .int .i64 0, .int .i64 0, .string ⟨#[]⟩, .string (str nm), .string (str cm), .slice none 0 0]) (by simp [results, Tryz.results72, go_sem, l0, l1, l2, l3, l4, l5, l6]) rfl ⟨⟨_, rfl, HG9.out, HR9.out.eqp (by show _ = p + (1 + (1 + (1 + 0))); omega)⟩, HB9.out⟩
set_option maxRecDepth 100000 in
set_option maxHeartbeats 8000000 in
theorem prim_dot_no {ts : List T} (hT : Toks ts) (t : TypeId) (ex : List Value) (w : World) (b : Nat) (A : Option Addr) (c p : Nat) (h : RR w b ts A c p false t ex) (h2 : (here (ts.drop p)).k ≠ 2) (h3 : (here (ts.drop p)).k ≠ 3) (h4 : (here (ts.drop p)).k ≠ 4) (za : isD false ⟨#[110, 117, 108, 108]⟩ (ts.drop p) = false) (zb : isD false ⟨#[116, 114, 117, 101]⟩ (ts.drop p) = false) (ze : isD false ⟨#[102, 97, 108, 115, 101]⟩ (ts.drop p) = false) (zf : isD false ⟨#[40]⟩ (ts.drop p) = false) (nm : List UInt8) (hnm : (here (ts.drop p)).s = nm) (hn : isNm resB (ts.drop p) = true) (yd : isS (⟨#[46]⟩ : ByteArray).data.toList (ts.drop (p + 1)) = true) (hn2 : (!false && isNm resB (ts.drop (p + 1 + 1))) = false) :
    Calls Tryz.prog 72 #[.pointer (some ⟨b, 0, none⟩)] w (Rq ts b A c p t ex w (fun k => w.heap.size ≤ k) (badX (1 + (1 + 0)))) := by
  have hp := h.hp
  have hlen := hT.len
  have e2 : ((here (ts.drop p)).k == 2) = false := by simpa using h2
  have e3 : ((here (ts.drop p)).k == 3) = false := by simpa using h3
  have e4 : ((here (ts.drop p)).k == 4) = false := by simpa using h4
  have HT := Lib.hid hT
  clear h2 h3 h4
  have HNm0 := fun (W : World) (R : RR W b ts A c p false t ex) => rNameT hT W b A c p t ex R hn
  simp only [hnm] at HNm0
  have HNm := Lib.hid HNm0
  clear HNm0 hnm
  obtain ⟨W1, hW1, I1⟩ := Inv.start h
  have HH := Lib.hid (rHere hT.len W1 b A c p false t ex I1.out.R)
  generalize here (ts.drop p) = u at *
  obtain ⟨uk, us, ui, up⟩ := u
  simp only [T.val] at *
  have HW1 := Lib.hid hW1
  have hbw := h.lt
  clear hW1 h hT
  go_enter Tryz.func72, Tryz.ntmps72
  go_wp2_with (rw [← HW1.out])
  refine (HH.out).mono ?_
  rintro r w2 ⟨rfl, b2⟩
  obtain ⟨W2, hW2, T2, m2⟩ := tbox w2 uk ui (str us) up
  have I2 := Lib.hid ((I1.out.later b2).later m2)
  have HW2 := Lib.hid hW2
  have hw2 : w.heap.size < w2.heap.size := Nat.lt_of_lt_of_le I1.out.lt2 b2.size
  have hw3 : w2.heap.size < W2.heap.size := (Array.getElem?_eq_some_iff.1 T2.out).1
  have k0 : W2.cell? ⟨w2.heap.size, 0, none⟩ = some (.int .i64 uk) := by rw [Lib.cell_of_heap T2.out]; rfl
  have k1 : W2.cell? ⟨w2.heap.size, 1, none⟩ = some (.string (str us)) := by rw [Lib.cell_of_heap T2.out]; rfl
  have k2 : W2.cell? ⟨w2.heap.size, 2, none⟩ = some (.int .i64 ui) := by rw [Lib.cell_of_heap T2.out]; rfl
  obtain ⟨c0, c1, c2, f1, f2⟩ := I2.out.R.cells
  clear hW2 m2 b2 I1 HH HW1
  go_wp2_with (rw [← HW2.out])
  refine (rEatF HT.out ⟨#[110, 117, 108, 108]⟩ W2 b A c p t ex false I2.out.R za).mono ?_
  rintro r w3 ⟨rfl, R3, b3⟩
  have I3 := Lib.hid (I2.out.but b3 R3)
  clear b3 R3
  go_wp2_with fail
  refine (rEatF HT.out ⟨#[116, 114, 117, 101]⟩ w3 b A c p t ex false I3.out.R zb).mono ?_
  rintro r w4 ⟨rfl, R4, b4⟩
  have I4 := Lib.hid (I3.out.but b4 R4)
  clear b4 R4
  go_wp2_with fail
  refine (rEatF HT.out ⟨#[102, 97, 108, 115, 101]⟩ w4 b A c p t ex false I4.out.R ze).mono ?_
  rintro r w5 ⟨rfl, R5, b5⟩
  have I5 := Lib.hid (I4.out.but b5 R5)
  clear b5 R5
  go_wp2_with fail
  refine (rEatF HT.out ⟨#[40]⟩ w5 b A c p t ex false I5.out.R zf).mono ?_
  rintro r w6 ⟨rfl, R6, b6⟩
  have I6 := Lib.hid (I5.out.but b6 R6)
  clear b6 R6
  go_wp2_with fail
  refine (HNm.out w6 I6.out.R).mono ?_
  rintro r w7 ⟨rfl, R7, b7⟩
  have I7 := Lib.hid (I6.out.but b7 R7)
  clear b7 R7
  go_wp2_with fail
  refine (rEatT HT.out ⟨#[46]⟩ w7 b A c (p + 1) t ex I7.out.R yd).mono ?_
  rintro r w8 ⟨rfl, R8, b8⟩
  have I8 := Lib.hid (I7.out.but b8 R8)
  clear b8 R8
  go_wp2_with fail
  refine (rNameF HT.out w8 b A c ((p + 1) + 1) t ex false I8.out.R hn2).mono ?_
  rintro r w9 ⟨rfl, R9, b9⟩
  have I9 := Lib.hid (I8.out.but b9 R9)
  clear b9 R9
  go_wp2_with fail
  refine (rCol _ _ _).mono ?_
  rintro r w10 ⟨rfl, b10⟩
  have I10 := Lib.hid (I9.out.later b10)
  clear b10
  obtain ⟨W9, hW9, q9, HR9, HG9, HB9⟩ := I10.out.put (show Got w10 (fun k => w.heap.size < k) (col nm []) true (.agg #[.string ⟨#[99, 111, 108]⟩, .int .i64 0, .int .i64 0, .string ⟨#[]⟩, .string (str nm), .string ⟨#[]⟩, .slice none 0 0]) from rgot_lit true wCol v0 nm [])
  have HW9 := Lib.hid hW9
  obtain ⟨x0, x1, x2, x3, x4, x5, x6⟩ := I10.out.q.cells
  obtain ⟨g0, g1, g2, g3, g4, g5, g6⟩ := I10.out.q.free
  obtain ⟨l0, l1, l2, l3, l4, l5, l6⟩ := q9.cells
  clear hW9 q9
  go_wp2_with (rw [← HW9.out])
  exact bodyPost_ret (v := .agg #[.string ⟨#[99, 111, 108]⟩, .int .i64 0, .int .i64 0, .string ⟨#[]⟩, .string (str nm), .string ⟨#[]⟩, .slice none 0 0]) (by simp [results, Tryz.results72, go_sem, l0, l1, l2, l3, l4, l5, l6]) rfl ⟨⟨_, rfl, HG9.out.bad _, HR9.out.eqp (by show _ = p + (1 + (1 + 0)); omega)⟩, HB9.out⟩
set_option maxRecDepth 100000 in
set_option maxHeartbeats 8000000 in
theorem prim_col {ts : List T} (hT : Toks ts) (t : TypeId) (ex : List Value) (w : World) (b : Nat) (A : Option Addr) (c p : Nat) (h : RR w b ts A c p false t ex) (h2 : (here (ts.drop p)).k ≠ 2) (h3 : (here (ts.drop p)).k ≠ 3) (h4 : (here (ts.drop p)).k ≠ 4) (za : isD false ⟨#[110, 117, 108, 108]⟩ (ts.drop p) = false) (zb : isD false ⟨#[116, 114, 117, 101]⟩ (ts.drop p) = false) (ze : isD false ⟨#[102, 97, 108, 115, 101]⟩ (ts.drop p) = false) (zf : isD false ⟨#[40]⟩ (ts.drop p) = false) (nm : List UInt8) (hnm : (here (ts.drop p)).s = nm) (hn : isNm resB (ts.drop p) = true) (zd : isD false ⟨#[46]⟩ (ts.drop (p + 1)) = false) (zo : isD false ⟨#[40]⟩ (ts.drop (p + 1)) = false) :
    Calls Tryz.prog 72 #[.pointer (some ⟨b, 0, none⟩)] w (Rq ts b A c p t ex w (fun k => w.heap.size ≤ k) (okX (col [] nm) (1 + 0))) := by
  have hp := h.hp
  have hlen := hT.len
  have e2 : ((here (ts.drop p)).k == 2) = false := by simpa using h2
  have e3 : ((here (ts.drop p)).k == 3) = false := by simpa using h3
  have e4 : ((here (ts.drop p)).k == 4) = false := by simpa using h4
  have HT := Lib.hid hT
  clear h2 h3 h4
  have HNm0 := fun (W : World) (R : RR W b ts A c p false t ex) => rNameT hT W b A c p t ex R hn
  simp only [hnm] at HNm0
  have HNm := Lib.hid HNm0
  clear HNm0 hnm
  obtain ⟨W1, hW1, I1⟩ := Inv.start h
  have HH := Lib.hid (rHere hT.len W1 b A c p false t ex I1.out.R)
  generalize here (ts.drop p) = u at *
  obtain ⟨uk, us, ui, up⟩ := u
  simp only [T.val] at *
  have HW1 := Lib.hid hW1
  have hbw := h.lt
  clear hW1 h hT
  go_enter Tryz.func72, Tryz.ntmps72
  go_wp2_with (rw [← HW1.out])
  refine (HH.out).mono ?_
  rintro r w2 ⟨rfl, b2⟩
  obtain ⟨W2, hW2, T2, m2⟩ := tbox w2 uk ui (str us) up
  have I2 := Lib.hid ((I1.out.later b2).later m2)
  have HW2 := Lib.hid hW2
  have hw2 : w.heap.size < w2.heap.size := Nat.lt_of_lt_of_le I1.out.lt2 b2.size
  have hw3 : w2.heap.size < W2.heap.size := (Array.getElem?_eq_some_iff.1 T2.out).1
  have k0 : W2.cell? ⟨w2.heap.size, 0, none⟩ = some (.int .i64 uk) := by rw [Lib.cell_of_heap T2.out]; rfl
  have k1 : W2.cell? ⟨w2.heap.size, 1, none⟩ = some (.string (str us)) := by rw [Lib.cell_of_heap T2.out]; rfl
  have k2 : W2.cell? ⟨w2.heap.size, 2, none⟩ = some (.int .i64 ui) := by rw [Lib.cell_of_heap T2.out]; rfl
  obtain ⟨c0, c1, c2, f1, f2⟩ := I2.out.R.cells
  clear hW2 m2 b2 I1 HH HW1
  go_wp2_with (rw [← HW2.out])
  refine (rEatF HT.out ⟨#[110, 117, 108, 108]⟩ W2 b A c p t ex false I2.out.R za).mono ?_
  rintro r w3 ⟨rfl, R3, b3⟩
  have I3 := Lib.hid (I2.out.but b3 R3)
  clear b3 R3
  go_wp2_with fail
  refine (rEatF HT.out ⟨#[116, 114, 117, 101]⟩ w3 b A c p t ex false I3.out.R zb).mono ?_
  rintro r w4 ⟨rfl, R4, b4⟩
  have I4 := Lib.hid (I3.out.but b4 R4)
  clear b4 R4
  go_wp2_with fail
  refine (rEatF HT.out ⟨#[102, 97, 108, 115, 101]⟩ w4 b A c p t ex false I4.out.R ze).mono ?_
  rintro r w5 ⟨rfl, R5, b5⟩
  have I5 := Lib.hid (I4.out.but b5 R5)
  clear b5 R5
  go_wp2_with fail
  refine (rEatF HT.out ⟨#[40]⟩ w5 b A c p t ex false I5.out.R zf).mono ?_
  rintro r w6 ⟨rfl, R6, b6⟩
  have I6 := Lib.hid (I5.out.but b6 R6)
  clear b6 R6
  go_wp2_with fail
  refine (HNm.out w6 I6.out.R).mono ?_
  rintro r w7 ⟨rfl, R7, b7⟩
  have I7 := Lib.hid (I6.out.but b7 R7)
  clear b7 R7
  go_wp2_with fail
  refine (rEatF HT.out ⟨#[46]⟩ w7 b A c (p + 1) t ex false I7.out.R zd).mono ?_
  rintro r w8 ⟨rfl, R8, b8⟩
  have I8 := Lib.hid (I7.out.but b8 R8)
  clear b8 R8
  go_wp2_with fail
  refine (rEatF HT.out ⟨#[40]⟩ w8 b A c (p + 1) t ex false I8.out.R zo).mono ?_
  rintro r w9 ⟨rfl, R9, b9⟩
  have I9 := Lib.hid (I8.out.but b9 R9)
  clear b9 R9
  go_wp2_with fail
  refine (rCol _ _ _).mono ?_
  rintro r w10 ⟨rfl, b10⟩
  have I10 := Lib.hid (I9.out.later b10)
  clear b10
  obtain ⟨W9, hW9, q9, HR9, HG9, HB9⟩ := I10.out.put (show Got w10 (fun k => w.heap.size < k) (col [] nm) false (.agg #[.string ⟨#[99, 111, 108]⟩, .int .i64 0, .int .i64 0, .string ⟨#[]⟩, .string ⟨#[]⟩, .string (str nm), .slice none 0 0]) from rgot_lit false wCol v0 [] nm)
  have HW9 := Lib.hid hW9
  obtain ⟨x0, x1, x2, x3, x4, x5, x6⟩ := I10.out.q.cells
  obtain ⟨g0, g1, g2, g3, g4, g5, g6⟩ := I10.out.q.free
  obtain ⟨l0, l1, l2, l3, l4, l5, l6⟩ := q9.cells
  clear hW9 q9
  go_wp2_with (rw [← HW9.out])
  exact bodyPost_ret (v := .agg #[.string ⟨#[99, 111, 108]⟩, .int .i64 0, .int .i64 0, .string ⟨#[]⟩, .string ⟨#[]⟩, .string (str nm), .slice none 0 0]) (by simp [results, Tryz.results72, go_sem, l0, l1, l2, l3, l4, l5, l6]) rfl ⟨⟨_, rfl, HG9.out, HR9.out.eqp (by show _ = p + (1 + 0); omega)⟩, HB9.out⟩
set_option maxRecDepth 100000 in
set_option maxHeartbeats 8000000 in
theorem prim_call0 {ts : List T} (hT : Toks ts) (t : TypeId) (ex : List Value) (w : World) (b : Nat) (A : Option Addr) (c p : Nat) (h : RR w b ts A c p false t ex) (h2 : (here (ts.drop p)).k ≠ 2) (h3 : (here (ts.drop p)).k ≠ 3) (h4 : (here (ts.drop p)).k ≠ 4) (za : isD false ⟨#[110, 117, 108, 108]⟩ (ts.drop p) = false) (zb : isD false ⟨#[116, 114, 117, 101]⟩ (ts.drop p) = false) (ze : isD false ⟨#[102, 97, 108, 115, 101]⟩ (ts.drop p) = false) (zf : isD false ⟨#[40]⟩ (ts.drop p) = false) (nm : List UInt8) (hnm : (here (ts.drop p)).s = nm) (hn : isNm resB (ts.drop p) = true) (zd : isD false ⟨#[46]⟩ (ts.drop (p + 1)) = false) (yo : isS (⟨#[40]⟩ : ByteArray).data.toList (ts.drop (p + 1)) = true) (yc : isS (⟨#[41]⟩ : ByteArray).data.toList (ts.drop (p + 1 + 1)) = true) :
    Calls Tryz.prog 72 #[.pointer (some ⟨b, 0, none⟩)] w (Rq ts b A c p t ex w (fun k => w.heap.size ≤ k) (okX (call1 nm []) (1 + (1 + 1)))) := by
  have hp := h.hp
  have hlen := hT.len
  have e2 : ((here (ts.drop p)).k == 2) = false := by simpa using h2
  have e3 : ((here (ts.drop p)).k == 3) = false := by simpa using h3
  have e4 : ((here (ts.drop p)).k == 4) = false := by simpa using h4
  have HT := Lib.hid hT
  clear h2 h3 h4
  have HNm0 := fun (W : World) (R : RR W b ts A c p false t ex) => rNameT hT W b A c p t ex R hn
  simp only [hnm] at HNm0
  have HNm := Lib.hid HNm0
  clear HNm0 hnm
  obtain ⟨W1, hW1, I1⟩ := Inv.start h
  have HH := Lib.hid (rHere hT.len W1 b A c p false t ex I1.out.R)
  generalize here (ts.drop p) = u at *
  obtain ⟨uk, us, ui, up⟩ := u
  simp only [T.val] at *
  have HW1 := Lib.hid hW1
  have hbw := h.lt
  clear hW1 h hT
  go_enter Tryz.func72, Tryz.ntmps72
  go_wp2_with (rw [← HW1.out])
  refine (HH.out).mono ?_
  rintro r w2 ⟨rfl, b2⟩
  obtain ⟨W2, hW2, T2, m2⟩ := tbox w2 uk ui (str us) up
  have I2 := Lib.hid ((I1.out.later b2).later m2)
  have HW2 := Lib.hid hW2
  have hw2 : w.heap.size < w2.heap.size := Nat.lt_of_lt_of_le I1.out.lt2 b2.size
  have hw3 : w2.heap.size < W2.heap.size := (Array.getElem?_eq_some_iff.1 T2.out).1
  have k0 : W2.cell? ⟨w2.heap.size, 0, none⟩ = some (.int .i64 uk) := by rw [Lib.cell_of_heap T2.out]; rfl
  have k1 : W2.cell? ⟨w2.heap.size, 1, none⟩ = some (.string (str us)) := by rw [Lib.cell_of_heap T2.out]; rfl
  have k2 : W2.cell? ⟨w2.heap.size, 2, none⟩ = some (.int .i64 ui) := by rw [Lib.cell_of_heap T2.out]; rfl
  obtain ⟨c0, c1, c2, f1, f2⟩ := I2.out.R.cells
  clear hW2 m2 b2 I1 HH HW1
  go_wp2_with (rw [← HW2.out])
  refine (rEatF HT.out ⟨#[110, 117, 108, 108]⟩ W2 b A c p t ex false I2.out.R za).mono ?_
  rintro r w3 ⟨rfl, R3, b3⟩
  have I3 := Lib.hid (I2.out.but b3 R3)
  clear b3 R3
  go_wp2_with fail
  refine (rEatF HT.out ⟨#[116, 114, 117, 101]⟩ w3 b A c p t ex false I3.out.R zb).mono ?_
  rintro r w4 ⟨rfl, R4, b4⟩
  have I4 := Lib.hid (I3.out.but b4 R4)
  clear b4 R4
  go_wp2_with fail
  refine (rEatF HT.out ⟨#[102, 97, 108, 115, 101]⟩ w4 b A c p t ex false I4.out.R ze).mono ?_
  rintro r w5 ⟨rfl, R5, b5⟩
  have I5 := Lib.hid (I4.out.but b5 R5)
  clear b5 R5
  go_wp2_with fail
  refine (rEatF HT.out ⟨#[40]⟩ w5 b A c p t ex false I5.out.R zf).mono ?_
  rintro r w6 ⟨rfl, R6, b6⟩
  have I6 := Lib.hid (I5.out.but b6 R6)
  clear b6 R6
  go_wp2_with fail
  refine (HNm.out w6 I6.out.R).mono ?_
  rintro r w7 ⟨rfl, R7, b7⟩
  have I7 := Lib.hid (I6.out.but b7 R7)
  clear b7 R7
  go_wp2_with fail
  refine (rEatF HT.out ⟨#[46]⟩ w7 b A c (p + 1) t ex false I7.out.R zd).mono ?_
  rintro r w8 ⟨rfl, R8, b8⟩
  have I8 := Lib.hid (I7.out.but b8 R8)
  clear b8 R8
  go_wp2_with fail
  refine (rEatT HT.out ⟨#[40]⟩ w8 b A c (p + 1) t ex I8.out.R yo).mono ?_
  rintro r w9 ⟨rfl, R9, b9⟩
  have I9 := Lib.hid (I8.out.but b9 R9)
  clear b9 R9
  go_wp2_with fail
  refine (rEatT HT.out ⟨#[41]⟩ w9 b A c ((p + 1) + 1) t ex I9.out.R yc).mono ?_
  rintro r w10 ⟨rfl, R10, b10⟩
  have I10 := Lib.hid (I9.out.but b10 R10)
  clear b10 R10
  go_wp2_with fail
  refine (rCall1 _ _ _ _ _).mono ?_
  rintro r w11 ⟨rfl, b11⟩
  have I11 := Lib.hid (I10.out.later b11)
  clear b11
  obtain ⟨W9, hW9, q9, HR9, HG9, HB9⟩ := I11.out.put (show Got w11 (fun k => w.heap.size < k) (call1 nm []) false (.agg #[.string ⟨#[99, 97, 108, 108]⟩, .int .i64 0, .int .i64 0, .string ⟨#[]⟩, .string ⟨#[]⟩, .string (str nm), .slice none 0 0]) from rgot_lit false wCall v0 [] nm)
  have HW9 := Lib.hid hW9
  obtain ⟨x0, x1, x2, x3, x4, x5, x6⟩ := I11.out.q.cells
  obtain ⟨g0, g1, g2, g3, g4, g5, g6⟩ := I11.out.q.free
  obtain ⟨l0, l1, l2, l3, l4, l5, l6⟩ := q9.cells
  clear hW9 q9
  go_wp2_with (rw [← HW9.out])
  exact bodyPost_ret (v := .agg #[.string ⟨#[99, 97, 108, 108]⟩, .int .i64 0, .int .i64 0, .string ⟨#[]⟩, .string ⟨#[]⟩, .string (str nm), .slice none 0 0]) (by simp [results, Tryz.results72, go_sem, l0, l1, l2, l3, l4, l5, l6]) rfl ⟨⟨_, rfl, HG9.out, HR9.out.eqp (by show _ = p + (1 + (1 + 1)); omega)⟩, HB9.out⟩
set_option maxRecDepth 100000 in
set_option maxHeartbeats 8000000 in
theorem prim_star {ts : List T} (hT : Toks ts) (t : TypeId) (ex : List Value) (w : World) (b : Nat) (A : Option Addr) (c p : Nat) (h : RR w b ts A c p false t ex) (h2 : (here (ts.drop p)).k ≠ 2) (h3 : (here (ts.drop p)).k ≠ 3) (h4 : (here (ts.drop p)).k ≠ 4) (za : isD false ⟨#[110, 117, 108, 108]⟩ (ts.drop p) = false) (zb : isD false ⟨#[116, 114, 117, 101]⟩ (ts.drop p) = false) (ze : isD false ⟨#[102, 97, 108, 115, 101]⟩ (ts.drop p) = false) (zf : isD false ⟨#[40]⟩ (ts.drop p) = false) (nm : List UInt8) (hnm : (here (ts.drop p)).s = nm) (hn : isNm resB (ts.drop p) = true) (hc : nm = wCount) (zd : isD false ⟨#[46]⟩ (ts.drop (p + 1)) = false) (yo : isS (⟨#[40]⟩ : ByteArray).data.toList (ts.drop (p + 1)) = true) (zc : isD false ⟨#[41]⟩ (ts.drop (p + 1 + 1)) = false) (ys : isS (⟨#[42]⟩ : ByteArray).data.toList (ts.drop (p + 1 + 1)) = true) (hc2 : isS (⟨#[41]⟩ : ByteArray).data.toList (ts.drop (p + 1 + 1 + 1)) = true) :
    Calls Tryz.prog 72 #[.pointer (some ⟨b, 0, none⟩)] w (Rq ts b A c p t ex w (fun k => w.heap.size ≤ k) (okX (call1 nm [star]) (1 + (1 + (1 + (1 + 0)))))) := by
  have hp := h.hp
  have hlen := hT.len
  have e2 : ((here (ts.drop p)).k == 2) = false := by simpa using h2
  have e3 : ((here (ts.drop p)).k == 3) = false := by simpa using h3
  have e4 : ((here (ts.drop p)).k == 4) = false := by simpa using h4
  have HT := Lib.hid hT
  clear h2 h3 h4
  have HNm0 := fun (W : World) (R : RR W b ts A c p false t ex) => rNameT hT W b A c p t ex R hn
  simp only [hnm] at HNm0
  have HNm := Lib.hid HNm0
  clear HNm0 hnm
  have ec : ((str nm).toList == [99, 111, 117, 110, 116]) = true := by rw [hc, Lib.toList_data, str_list]; rfl
  clear hc
  obtain ⟨W1, hW1, I1⟩ := Inv.start h
  have HH := Lib.hid (rHere hT.len W1 b A c p false t ex I1.out.R)
  generalize here (ts.drop p) = u at *
  obtain ⟨uk, us, ui, up⟩ := u
  simp only [T.val] at *
  have HW1 := Lib.hid hW1
  have hbw := h.lt
  clear hW1 h hT
  go_enter Tryz.func72, Tryz.ntmps72
  go_wp2_with (rw [← HW1.out])
  refine (HH.out).mono ?_
  rintro r w2 ⟨rfl, b2⟩
  obtain ⟨W2, hW2, T2, m2⟩ := tbox w2 uk ui (str us) up
  have I2 := Lib.hid ((I1.out.later b2).later m2)
  have HW2 := Lib.hid hW2
  have hw2 : w.heap.size < w2.heap.size := Nat.lt_of_lt_of_le I1.out.lt2 b2.size
  have hw3 : w2.heap.size < W2.heap.size := (Array.getElem?_eq_some_iff.1 T2.out).1
  have k0 : W2.cell? ⟨w2.heap.size, 0, none⟩ = some (.int .i64 uk) := by rw [Lib.cell_of_heap T2.out]; rfl
  have k1 : W2.cell? ⟨w2.heap.size, 1, none⟩ = some (.string (str us)) := by rw [Lib.cell_of_heap T2.out]; rfl
  have k2 : W2.cell? ⟨w2.heap.size, 2, none⟩ = some (.int .i64 ui) := by rw [Lib.cell_of_heap T2.out]; rfl
  obtain ⟨c0, c1, c2, f1, f2⟩ := I2.out.R.cells
  clear hW2 m2 b2 I1 HH HW1
  go_wp2_with (rw [← HW2.out])
  refine (rEatF HT.out ⟨#[110, 117, 108, 108]⟩ W2 b A c p t ex false I2.out.R za).mono ?_
  rintro r w3 ⟨rfl, R3, b3⟩
  have I3 := Lib.hid (I2.out.but b3 R3)
  clear b3 R3
  go_wp2_with fail
  refine (rEatF HT.out ⟨#[116, 114, 117, 101]⟩ w3 b A c p t ex false I3.out.R zb).mono ?_
  rintro r w4 ⟨rfl, R4, b4⟩
  have I4 := Lib.hid (I3.out.but b4 R4)
  clear b4 R4
  go_wp2_with fail
  refine (rEatF HT.out ⟨#[102, 97, 108, 115, 101]⟩ w4 b A c p t ex false I4.out.R ze).mono ?_
  rintro r w5 ⟨rfl, R5, b5⟩
  have I5 := Lib.hid (I4.out.but b5 R5)
  clear b5 R5
  go_wp2_with fail
  refine (rEatF HT.out ⟨#[40]⟩ w5 b A c p t ex false I5.out.R zf).mono ?_
  rintro r w6 ⟨rfl, R6, b6⟩
  have I6 := Lib.hid (I5.out.but b6 R6)
  clear b6 R6
  go_wp2_with fail
  refine (HNm.out w6 I6.out.R).mono ?_
  rintro r w7 ⟨rfl, R7, b7⟩
  have I7 := Lib.hid (I6.out.but b7 R7)
  clear b7 R7
  go_wp2_with fail
  refine (rEatF HT.out ⟨#[46]⟩ w7 b A c (p + 1) t ex false I7.out.R zd).mono ?_
  rintro r w8 ⟨rfl, R8, b8⟩
  have I8 := Lib.hid (I7.out.but b8 R8)
  clear b8 R8
  go_wp2_with fail
  refine (rEatT HT.out ⟨#[40]⟩ w8 b A c (p + 1) t ex I8.out.R yo).mono ?_
  rintro r w9 ⟨rfl, R9, b9⟩
  have I9 := Lib.hid (I8.out.but b9 R9)
  clear b9 R9
  go_wp2_with fail
  refine (rEatF HT.out ⟨#[41]⟩ w9 b A c ((p + 1) + 1) t ex false I9.out.R zc).mono ?_
  rintro r w10 ⟨rfl, R10, b10⟩
  have I10 := Lib.hid (I9.out.but b10 R10)
  clear b10 R10
  go_wp2_with fail
  refine (rEatT HT.out ⟨#[42]⟩ w10 b A c ((p + 1) + 1) t ex I10.out.R ys).mono ?_
  rintro r w11 ⟨rfl, R11, b11⟩
  have I11 := Lib.hid (I10.out.but b11 R11)
  clear b11 R11
  go_wp2_with fail
  refine (rNeedT HT.out ⟨#[41]⟩ w11 b A c (((p + 1) + 1) + 1) t ex I11.out.R hc2).mono ?_
  rintro r w12 ⟨rfl, R12, b12⟩
  have I12 := Lib.hid (I11.out.but b12 R12)
  clear b12 R12
  go_wp2_with fail
  refine (rOp1 _ _ _ _ _).mono ?_
  rintro r w13 ⟨rfl, b13⟩
  have I13 := Lib.hid (I12.out.later b13)
  clear b13
  obtain ⟨WB, hWB, qB, zB, mB⟩ := box7 w13 (.string ⟨#[115, 116, 97, 114]⟩) (.int .i64 0) (.int .i64 0) (.string ⟨#[]⟩) (.string ⟨#[]⟩) (.string ⟨#[]⟩) (.slice none 0 0)
  have IB := Lib.hid (I13.out.later mB)
  have hzB := I13.out.lt2
  have GB : Hid (Got WB (fun k => w.heap.size < k) (call1 nm [star]) false (.agg #[.string ⟨#[99, 97, 108, 108]⟩, .int .i64 0, .int .i64 0, .string ⟨#[]⟩, .string ⟨#[]⟩, .string (str nm), .slice (some ⟨w13.heap.size, 0, none⟩) 1 1])) := Lib.hid ⟨call1 nm [star], ⟨some ⟨w13.heap.size, 0, none⟩, 1, rfl, Nat.le_refl _, by decide, fun _ => ⟨w13.heap.size, 0, rfl, hzB, by omega, ⟨⟨none, 0, B7.cells qB, by simp [Sub, star, op1]⟩, trivial⟩⟩⟩, fun _ => rfl⟩
  have HWB := Lib.hid hWB
  clear hWB qB zB mB
  go_wp2_with (rw [← HWB.out])
  refine (rCall1 _ _ _ _ _).mono ?_
  rintro r w15 ⟨rfl, b15⟩
  have IE := Lib.hid (IB.out.later b15)
  have GE := Lib.hid ((GB.out.later b15))
  clear b15 IB GB
  obtain ⟨W9, hW9, q9, HR9, HG9, HB9⟩ := IE.out.put (GE.out)
  have HW9 := Lib.hid hW9
  obtain ⟨x0, x1, x2, x3, x4, x5, x6⟩ := IE.out.q.cells
  obtain ⟨g0, g1, g2, g3, g4, g5, g6⟩ := IE.out.q.free
  obtain ⟨l0, l1, l2, l3, l4, l5, l6⟩ := q9.cells
  clear hW9 q9
  go_wp2_with (rw [← HW9.out])
  exact bodyPost_ret (v := .agg #[.string ⟨#[99, 97, 108, 108]⟩, .int .i64 0, .int .i64 0, .string ⟨#[]⟩, .string ⟨#[]⟩, .string (str nm), .slice (some ⟨w13.heap.size, 0, none⟩) 1 1]) (by simp [results, Tryz.results72, go_sem, l0, l1, l2, l3, l4, l5, l6]) rfl ⟨⟨_, rfl, HG9.out, HR9.out.eqp (by show _ = p + (1 + (1 + (1 + (1 + 0)))); omega)⟩, HB9.out⟩
set_option maxRecDepth 100000 in
set_option maxHeartbeats 8000000 in
theorem prim_star_no {ts : List T} (hT : Toks ts) (t : TypeId) (ex : List Value) (w : World) (b : Nat) (A : Option Addr) (c p : Nat) (h : RR w b ts A c p false t ex) (h2 : (here (ts.drop p)).k ≠ 2) (h3 : (here (ts.drop p)).k ≠ 3) (h4 : (here (ts.drop p)).k ≠ 4) (za : isD false ⟨#[110, 117, 108, 108]⟩ (ts.drop p) = false) (zb : isD false ⟨#[116, 114, 117, 101]⟩ (ts.drop p) = false) (ze : isD false ⟨#[102, 97, 108, 115, 101]⟩ (ts.drop p) = false) (zf : isD false ⟨#[40]⟩ (ts.drop p) = false) (nm : List UInt8) (hnm : (here (ts.drop p)).s = nm) (hn : isNm resB (ts.drop p) = true) (hc : nm = wCount) (zd : isD false ⟨#[46]⟩ (ts.drop (p + 1)) = false) (yo : isS (⟨#[40]⟩ : ByteArray).data.toList (ts.drop (p + 1)) = true) (zc : isD false ⟨#[41]⟩ (ts.drop (p + 1 + 1)) = false) (ys : isS (⟨#[42]⟩ : ByteArray).data.toList (ts.drop (p + 1 + 1)) = true) (hc2 : isD false ⟨#[41]⟩ (ts.drop (p + 1 + 1 + 1)) = false) :
    Calls Tryz.prog 72 #[.pointer (some ⟨b, 0, none⟩)] w (Rq ts b A c p t ex w (fun k => w.heap.size ≤ k) (badX (1 + (1 + (1 + 0))))) := by
  have hp := h.hp
  have hlen := hT.len
  have e2 : ((here (ts.drop p)).k == 2) = false := by simpa using h2
  have e3 : ((here (ts.drop p)).k == 3) = false := by simpa using h3
  have e4 : ((here (ts.drop p)).k == 4) = false := by simpa using h4
  have HT := Lib.hid hT
  clear h2 h3 h4
  have HNm0 := fun (W : World) (R : RR W b ts A c p false t ex) => rNameT hT W b A c p t ex R hn
  simp only [hnm] at HNm0
  have HNm := Lib.hid HNm0
  clear HNm0 hnm
  have ec : ((str nm).toList == [99, 111, 117, 110, 116]) = true := by rw [hc, Lib.toList_data, str_list]; rfl
  clear hc
  obtain ⟨W1, hW1, I1⟩ := Inv.start h
  have HH := Lib.hid (rHere hT.len W1 b A c p false t ex I1.out.R)
  generalize here (ts.drop p) = u at *
  obtain ⟨uk, us, ui, up⟩ := u
  simp only [T.val] at *
  have HW1 := Lib.hid hW1
  have hbw := h.lt
  clear hW1 h hT
  go_enter Tryz.func72, Tryz.ntmps72
  go_wp2_with (rw [← HW1.out])
  refine (HH.out).mono ?_
  rintro r w2 ⟨rfl, b2⟩
  obtain ⟨W2, hW2, T2, m2⟩ := tbox w2 uk ui (str us) up
  have I2 := Lib.hid ((I1.out.later b2).later m2)
  have HW2 := Lib.hid hW2
  have hw2 : w.heap.size < w2.heap.size := Nat.lt_of_lt_of_le I1.out.lt2 b2.size
  have hw3 : w2.heap.size < W2.heap.size := (Array.getElem?_eq_some_iff.1 T2.out).1
  have k0 : W2.cell? ⟨w2.heap.size, 0, none⟩ = some (.int .i64 uk) := by rw [Lib.cell_of_heap T2.out]; rfl
  have k1 : W2.cell? ⟨w2.heap.size, 1, none⟩ = some (.string (str us)) := by rw [Lib.cell_of_heap T2.out]; rfl
  have k2 : W2.cell? ⟨w2.heap.size, 2, none⟩ = some (.int .i64 ui) := by rw [Lib.cell_of_heap T2.out]; rfl
  obtain ⟨c0, c1, c2, f1, f2⟩ := I2.out.R.cells
  clear hW2 m2 b2 I1 HH HW1
  go_wp2_with (rw [← HW2.out])
  refine (rEatF HT.out ⟨#[110, 117, 108, 108]⟩ W2 b A c p t ex false I2.out.R za).mono ?_
  rintro r w3 ⟨rfl, R3, b3⟩
  have I3 := Lib.hid (I2.out.but b3 R3)
  clear b3 R3
  go_wp2_with fail
  refine (rEatF HT.out ⟨#[116, 114, 117, 101]⟩ w3 b A c p t ex false I3.out.R zb).mono ?_
  rintro r w4 ⟨rfl, R4, b4⟩
  have I4 := Lib.hid (I3.out.but b4 R4)
  clear b4 R4
  go_wp2_with fail
  refine (rEatF HT.out ⟨#[102, 97, 108, 115, 101]⟩ w4 b A c p t ex false I4.out.R ze).mono ?_
  rintro r w5 ⟨rfl, R5, b5⟩
  have I5 := Lib.hid (I4.out.but b5 R5)
  clear b5 R5
  go_wp2_with fail
  refine (rEatF HT.out ⟨#[40]⟩ w5 b A c p t ex false I5.out.R zf).mono ?_
  rintro r w6 ⟨rfl, R6, b6⟩
  have I6 := Lib.hid (I5.out.but b6 R6)
  clear b6 R6
  go_wp2_with fail
  refine (HNm.out w6 I6.out.R).mono ?_
  rintro r w7 ⟨rfl, R7, b7⟩
  have I7 := Lib.hid (I6.out.but b7 R7)
  clear b7 R7
  go_wp2_with fail
  refine (rEatF HT.out ⟨#[46]⟩ w7 b A c (p + 1) t ex false I7.out.R zd).mono ?_
  rintro r w8 ⟨rfl, R8, b8⟩
  have I8 := Lib.hid (I7.out.but b8 R8)
  clear b8 R8
  go_wp2_with fail
  refine (rEatT HT.out ⟨#[40]⟩ w8 b A c (p + 1) t ex I8.out.R yo).mono ?_
  rintro r w9 ⟨rfl, R9, b9⟩
  have I9 := Lib.hid (I8.out.but b9 R9)
  clear b9 R9
  go_wp2_with fail
  refine (rEatF HT.out ⟨#[41]⟩ w9 b A c ((p + 1) + 1) t ex false I9.out.R zc).mono ?_
  rintro r w10 ⟨rfl, R10, b10⟩
  have I10 := Lib.hid (I9.out.but b10 R10)
  clear b10 R10
  go_wp2_with fail
  refine (rEatT HT.out ⟨#[42]⟩ w10 b A c ((p + 1) + 1) t ex I10.out.R ys).mono ?_
  rintro r w11 ⟨rfl, R11, b11⟩
  have I11 := Lib.hid (I10.out.but b11 R11)
  clear b11 R11
  go_wp2_with fail
  refine (rNeedF HT.out ⟨#[41]⟩ w11 b A c (((p + 1) + 1) + 1) t ex false I11.out.R hc2).mono ?_
  rintro r w12 ⟨rfl, R12, b12⟩
  have I12 := Lib.hid (I11.out.but b12 R12)
  clear b12 R12
  go_wp2_with fail
  refine (rOp1 _ _ _ _ _).mono ?_
  rintro r w13 ⟨rfl, b13⟩
  have I13 := Lib.hid (I12.out.later b13)
  clear b13
  obtain ⟨WB, hWB, qB, zB, mB⟩ := box7 w13 (.string ⟨#[115, 116, 97, 114]⟩) (.int .i64 0) (.int .i64 0) (.string ⟨#[]⟩) (.string ⟨#[]⟩) (.string ⟨#[]⟩) (.slice none 0 0)
  have IB := Lib.hid (I13.out.later mB)
  have hzB := I13.out.lt2
  have GB : Hid (Got WB (fun k => w.heap.size < k) (call1 nm [star]) false (.agg #[.string ⟨#[99, 97, 108, 108]⟩, .int .i64 0, .int .i64 0, .string ⟨#[]⟩, .string ⟨#[]⟩, .string (str nm), .slice (some ⟨w13.heap.size, 0, none⟩) 1 1])) := Lib.hid ⟨call1 nm [star], ⟨some ⟨w13.heap.size, 0, none⟩, 1, rfl, Nat.le_refl _, by decide, fun _ => ⟨w13.heap.size, 0, rfl, hzB, by omega, ⟨⟨none, 0, B7.cells qB, by simp [Sub, star, op1]⟩, trivial⟩⟩⟩, fun _ => rfl⟩
  have HWB := Lib.hid hWB
  clear hWB qB zB mB
  go_wp2_with (rw [← HWB.out])
  refine (rCall1 _ _ _ _ _).mono ?_
  rintro r w15 ⟨rfl, b15⟩
  have IE := Lib.hid (IB.out.later b15)
  have GE := Lib.hid ((GB.out.later b15).more (d' := true) (fun h => by cases h))
  clear b15 IB GB
  obtain ⟨W9, hW9, q9, HR9, HG9, HB9⟩ := IE.out.put (GE.out)
  have HW9 := Lib.hid hW9
  obtain ⟨x0, x1, x2, x3, x4, x5, x6⟩ := IE.out.q.cells
  obtain ⟨g0, g1, g2, g3, g4, g5, g6⟩ := IE.out.q.free
  obtain ⟨l0, l1, l2, l3, l4, l5, l6⟩ := q9.cells
  clear hW9 q9
  go_wp2_with (rw [← HW9.out])
  exact bodyPost_ret (v := .agg #[.string ⟨#[99, 97, 108, 108]⟩, .int .i64 0, .int .i64 0, .string ⟨#[]⟩, .string ⟨#[]⟩, .string (str nm), .slice (some ⟨w13.heap.size, 0, none⟩) 1 1]) (by simp [results, Tryz.results72, go_sem, l0, l1, l2, l3, l4, l5, l6]) rfl ⟨⟨_, rfl, HG9.out.bad _, HR9.out.eqp (by show _ = p + (1 + (1 + (1 + 0))); omega)⟩, HB9.out⟩
end Go.Proofs.YthohfegnphocbaaGreatDoor
