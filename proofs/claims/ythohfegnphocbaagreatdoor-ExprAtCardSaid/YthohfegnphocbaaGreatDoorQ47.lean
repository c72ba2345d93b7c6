/- Contract of the reference's primary, at a call. No condition. -/
import Derived.Test.YthohfegnphocbaaGreatDoorQ46
import Derived.Test.YthohfegnphocbaaGreatDoorQ45
import Derived.Test.YthohfegnphocbaaGreatDoorQ20
namespace Go.Proofs.YthohfegnphocbaaGreatDoor
open Go.RowKit
set_option maxRecDepth 100000 in
set_option maxHeartbeats 8000000 in
theorem prim_call_ok {ts : List T} (hT : Toks ts) (t : TypeId) (ex : List Value) (v : Nat) (H1 : ListH ts t ex v) (xs : List E) (m : Nat) (w : World) (b : Nat) (A : Option Addr) (c p : Nat) (h : RR w b ts A c p false t ex) (h2 : (here (ts.drop p)).k ≠ 2) (h3 : (here (ts.drop p)).k ≠ 3) (h4 : (here (ts.drop p)).k ≠ 4) (za : isD false ⟨#[110, 117, 108, 108]⟩ (ts.drop p) = false) (zb : isD false ⟨#[116, 114, 117, 101]⟩ (ts.drop p) = false) (ze : isD false ⟨#[102, 97, 108, 115, 101]⟩ (ts.drop p) = false) (zf : isD false ⟨#[40]⟩ (ts.drop p) = false) (nm : List UInt8) (hnm : (here (ts.drop p)).s = nm) (hn : isNm resB (ts.drop p) = true) (hc : nm ≠ wCount) (zd : isD false ⟨#[46]⟩ (ts.drop (p + 1)) = false) (yo : isS (⟨#[40]⟩ : ByteArray).data.toList (ts.drop (p + 1)) = true) (zc : isD false ⟨#[41]⟩ (ts.drop (p + 1 + 1)) = false) (hr : rank ts (p + 1 + 1) false ≤ v) (hx : ls resB (ts.drop (p + 1 + 1)) = .ok (xs, m)) (hcl : isS (⟨#[41]⟩ : ByteArray).data.toList (ts.drop (p + 1 + 1 + m)) = true) :
    Calls Tryz.prog 72 #[.pointer (some ⟨b, 0, none⟩)] w (Rq ts b A c p t ex w (fun k => w.heap.size ≤ k) (okX (call1 nm xs) (1 + (1 + (m + (1 + 0)))))) := by
  have hp := h.hp
  have hlen := hT.len
  have e2 : ((here (ts.drop p)).k == 2) = false := by simpa using h2
  have e3 : ((here (ts.drop p)).k == 3) = false := by simpa using h3
  have e4 : ((here (ts.drop p)).k == 4) = false := by simpa using h4
  have HT := Lib.hid hT
  clear h2 h3 h4
  have HNm0 := fun (W : World) (R : RR W b ts A c p false t ex) => rNameT hT W b A c p t ex R hn
  simp only [hnm] at HNm0
  have HNm := Lib.hid HNm0
  clear HNm0 hnm
  have ec : ((str nm).toList == [99, 111, 117, 110, 116]) = false := by rw [Lib.toList_data, str_list]; simpa [wCount] using hc
  clear hc
  obtain ⟨W1, hW1, I1⟩ := Inv.start h
  have HH := Lib.hid (rHere hT.len W1 b A c p false t ex I1.out.R)
  generalize here (ts.drop p) = u at *
  obtain ⟨uk, us, ui, up⟩ := u
  simp only [T.val] at *
  have HW1 := Lib.hid hW1
  have hbw := h.lt
  clear hW1 h hT
  go_enter Tryz.func72, Tryz.ntmps72
  go_wp2_with (rw [← HW1.out])
  refine (HH.out).mono ?_
  rintro r w2 ⟨rfl, b2⟩
  obtain ⟨W2, hW2, T2, m2⟩ := tbox w2 uk ui (str us) up
  have I2 := Lib.hid ((I1.out.later b2).later m2)
  have HW2 := Lib.hid hW2
  have hw2 : w.heap.size < w2.heap.size := Nat.lt_of_lt_of_le I1.out.lt2 b2.size
  have hw3 : w2.heap.size < W2.heap.size := (Array.getElem?_eq_some_iff.1 T2.out).1
  have k0 : W2.cell? ⟨w2.heap.size, 0, none⟩ = some (.int .i64 uk) := by rw [Lib.cell_of_heap T2.out]; rfl
  have k1 : W2.cell? ⟨w2.heap.size, 1, none⟩ = some (.string (str us)) := by rw [Lib.cell_of_heap T2.out]; rfl
  have k2 : W2.cell? ⟨w2.heap.size, 2, none⟩ = some (.int .i64 ui) := by rw [Lib.cell_of_heap T2.out]; rfl
  obtain ⟨c0, c1, c2, f1, f2⟩ := I2.out.R.cells
  clear hW2 m2 b2 I1 HH HW1
  go_wp2_with (rw [← HW2.out])
  refine (rEatF HT.out ⟨#[110, 117, 108, 108]⟩ W2 b A c p t ex false I2.out.R za).mono ?_
  rintro r w3 ⟨rfl, R3, b3⟩
  have I3 := Lib.hid (I2.out.but b3 R3)
  clear b3 R3
  go_wp2_with fail
  refine (rEatF HT.out ⟨#[116, 114, 117, 101]⟩ w3 b A c p t ex false I3.out.R zb).mono ?_
  rintro r w4 ⟨rfl, R4, b4⟩
  have I4 := Lib.hid (I3.out.but b4 R4)
  clear b4 R4
  go_wp2_with fail
  refine (rEatF HT.out ⟨#[102, 97, 108, 115, 101]⟩ w4 b A c p t ex false I4.out.R ze).mono ?_
  rintro r w5 ⟨rfl, R5, b5⟩
  have I5 := Lib.hid (I4.out.but b5 R5)
  clear b5 R5
  go_wp2_with fail
  refine (rEatF HT.out ⟨#[40]⟩ w5 b A c p t ex false I5.out.R zf).mono ?_
  rintro r w6 ⟨rfl, R6, b6⟩
  have I6 := Lib.hid (I5.out.but b6 R6)
  clear b6 R6
  go_wp2_with fail
  refine (HNm.out w6 I6.out.R).mono ?_
  rintro r w7 ⟨rfl, R7, b7⟩
  have I7 := Lib.hid (I6.out.but b7 R7)
  clear b7 R7
  go_wp2_with fail
  refine (rEatF HT.out ⟨#[46]⟩ w7 b A c (p + 1) t ex false I7.out.R zd).mono ?_
  rintro r w8 ⟨rfl, R8, b8⟩
  have I8 := Lib.hid (I7.out.but b8 R8)
  clear b8 R8
  go_wp2_with fail
  refine (rEatT HT.out ⟨#[40]⟩ w8 b A c (p + 1) t ex I8.out.R yo).mono ?_
  rintro r w9 ⟨rfl, R9, b9⟩
  have I9 := Lib.hid (I8.out.but b9 R9)
  clear b9 R9
  go_wp2_with fail
  refine (rEatF HT.out ⟨#[41]⟩ w9 b A c ((p + 1) + 1) t ex false I9.out.R zc).mono ?_
  rintro r w10 ⟨rfl, R10, b10⟩
  have I10 := Lib.hid (I9.out.but b10 R10)
  clear b10 R10
  go_wp2_with fail
  have HL := H1 (p + 1 + 1) false w10 b A c I10.out.R hr
  rw [hx] at HL
  refine HL.mono ?_
  rintro r w11 ⟨⟨u9, l9, rfl, O11, hl9, -, R11⟩, b11⟩
  change RR w11 b ts A c (p + 1 + 1 + m) false t ex at R11
  have hz11 := I10.out.lt2
  have hz11b := b11.size
  have I11 := Lib.hid (I10.out.but b11 R11)
  have L11 := (O11.got (fun k hk => hk)).keep (S' := fun k => w.heap.size < k) (fun k hk _ => ⟨by omega, rfl⟩) (Nat.le_refl _)
  obtain rfl : l9 = xs := hl9 rfl
  obtain ⟨l8, A9, c9, rfl, hs9, he9⟩ := id L11
  have HLG := Lib.hid L11
  clear O11 L11 b11 R11 HL H1 hs9 he9 hl9
  generalize l8.length = n9 at *
  go_wp2_with fail
  refine (rNeedT HT.out ⟨#[41]⟩ w11 b A c (p + 1 + 1 + m) t ex I11.out.R hcl).mono ?_
  rintro r w12 ⟨rfl, R12, b12⟩
  have I12 := Lib.hid (I11.out.but b12 R12)
  have L12 := Lib.hid (HLG.out.keep (S' := fun k => w.heap.size < k) (fun k hk hlt => ⟨hk, b12.block k hlt (by have := I11.out.lt; omega)⟩) b12.size)
  clear b12 R12 HLG
  go_wp2_with fail
  refine (rCall1 _ _ _ _ _).mono ?_
  rintro r w13 ⟨rfl, b13⟩
  have IE := Lib.hid (I12.out.later b13)
  have GE : Hid (Got w13 (fun k => w.heap.size < k) (call1 nm l9) false (.agg #[.string ⟨#[99, 97, 108, 108]⟩, .int .i64 0, .int .i64 0, .string ⟨#[]⟩, .string ⟨#[]⟩, .string (str nm), .slice A9 n9 c9])) := Lib.hid ((((L12.out.later b13).whole wCall nm)))
  clear b13 L12
  obtain ⟨W9, hW9, q9, HR9, HG9, HB9⟩ := IE.out.put (GE.out)
  have HW9 := Lib.hid hW9
  obtain ⟨x0, x1, x2, x3, x4, x5, x6⟩ := IE.out.q.cells
  obtain ⟨g0, g1, g2, g3, g4, g5, g6⟩ := IE.out.q.free
  obtain ⟨l0, l1, l2, l3, l4, l5, l6⟩ := q9.cells
  clear hW9 q9
  go_wp2_with (rw [← HW9.out])
  exact bodyPost_ret (v := .agg #[.string ⟨#[99, 97, 108, 108]⟩, .int .i64 0, .int .i64 0, .string ⟨#[]⟩, .string ⟨#[]⟩, .string (str nm), .slice A9 n9 c9]) (by simp [results, Tryz.results72, go_sem, l0, l1, l2, l3, l4, l5, l6]) rfl ⟨⟨_, rfl, HG9.out, HR9.out.eqp (by show _ = p + (1 + (1 + (m + (1 + 0)))); omega)⟩, HB9.out⟩
set_option maxRecDepth 100000 in
set_option maxHeartbeats 8000000 in
theorem prim_call_no {ts : List T} (hT : Toks ts) (t : TypeId) (ex : List Value) (v : Nat) (H1 : ListH ts t ex v) (xs : List E) (m : Nat) (w : World) (b : Nat) (A : Option Addr) (c p : Nat) (h : RR w b ts A c p false t ex) (h2 : (here (ts.drop p)).k ≠ 2) (h3 : (here (ts.drop p)).k ≠ 3) (h4 : (here (ts.drop p)).k ≠ 4) (za : isD false ⟨#[110, 117, 108, 108]⟩ (ts.drop p) = false) (zb : isD false ⟨#[116, 114, 117, 101]⟩ (ts.drop p) = false) (ze : isD false ⟨#[102, 97, 108, 115, 101]⟩ (ts.drop p) = false) (zf : isD false ⟨#[40]⟩ (ts.drop p) = false) (nm : List UInt8) (hnm : (here (ts.drop p)).s = nm) (hn : isNm resB (ts.drop p) = true) (hc : nm ≠ wCount) (zd : isD false ⟨#[46]⟩ (ts.drop (p + 1)) = false) (yo : isS (⟨#[40]⟩ : ByteArray).data.toList (ts.drop (p + 1)) = true) (zc : isD false ⟨#[41]⟩ (ts.drop (p + 1 + 1)) = false) (hr : rank ts (p + 1 + 1) false ≤ v) (hx : ls resB (ts.drop (p + 1 + 1)) = .ok (xs, m)) (hcl : isD false ⟨#[41]⟩ (ts.drop (p + 1 + 1 + m)) = false) :
    Calls Tryz.prog 72 #[.pointer (some ⟨b, 0, none⟩)] w (Rq ts b A c p t ex w (fun k => w.heap.size ≤ k) (badX (1 + (1 + (m + 0))))) := by
  have hp := h.hp
  have hlen := hT.len
  have e2 : ((here (ts.drop p)).k == 2) = false := by simpa using h2
  have e3 : ((here (ts.drop p)).k == 3) = false := by simpa using h3
  have e4 : ((here (ts.drop p)).k == 4) = false := by simpa using h4
  have HT := Lib.hid hT
  clear h2 h3 h4
  have HNm0 := fun (W : World) (R : RR W b ts A c p false t ex) => rNameT hT W b A c p t ex R hn
  simp only [hnm] at HNm0
  have HNm := Lib.hid HNm0
  clear HNm0 hnm
  have ec : ((str nm).toList == [99, 111, 117, 110, 116]) = false := by rw [Lib.toList_data, str_list]; simpa [wCount] using hc
  clear hc
  obtain ⟨W1, hW1, I1⟩ := Inv.start h
  have HH := Lib.hid (rHere hT.len W1 b A c p false t ex I1.out.R)
  generalize here (ts.drop p) = u at *
  obtain ⟨uk, us, ui, up⟩ := u
  simp only [T.val] at *
  have HW1 := Lib.hid hW1
  have hbw := h.lt
  clear hW1 h hT
  go_enter Tryz.func72, Tryz.ntmps72
  go_wp2_with (rw [← HW1.out])
  refine (HH.out).mono ?_
  rintro r w2 ⟨rfl, b2⟩
  obtain ⟨W2, hW2, T2, m2⟩ := tbox w2 uk ui (str us) up
  have I2 := Lib.hid ((I1.out.later b2).later m2)
  have HW2 := Lib.hid hW2
  have hw2 : w.heap.size < w2.heap.size := Nat.lt_of_lt_of_le I1.out.lt2 b2.size
  have hw3 : w2.heap.size < W2.heap.size := (Array.getElem?_eq_some_iff.1 T2.out).1
  have k0 : W2.cell? ⟨w2.heap.size, 0, none⟩ = some (.int .i64 uk) := by rw [Lib.cell_of_heap T2.out]; rfl
  have k1 : W2.cell? ⟨w2.heap.size, 1, none⟩ = some (.string (str us)) := by rw [Lib.cell_of_heap T2.out]; rfl
  have k2 : W2.cell? ⟨w2.heap.size, 2, none⟩ = some (.int .i64 ui) := by rw [Lib.cell_of_heap T2.out]; rfl
  obtain ⟨c0, c1, c2, f1, f2⟩ := I2.out.R.cells
  clear hW2 m2 b2 I1 HH HW1
  go_wp2_with (rw [← HW2.out])
  refine (rEatF HT.out ⟨#[110, 117, 108, 108]⟩ W2 b A c p t ex false I2.out.R za).mono ?_
  rintro r w3 ⟨rfl, R3, b3⟩
  have I3 := Lib.hid (I2.out.but b3 R3)
  clear b3 R3
  go_wp2_with fail
  refine (rEatF HT.out ⟨#[116, 114, 117, 101]⟩ w3 b A c p t ex false I3.out.R zb).mono ?_
  rintro r w4 ⟨rfl, R4, b4⟩
  have I4 := Lib.hid (I3.out.but b4 R4)
  clear b4 R4
  go_wp2_with fail
  refine (rEatF HT.out ⟨#[102, 97, 108, 115, 101]⟩ w4 b A c p t ex false I4.out.R ze).mono ?_
  rintro r w5 ⟨rfl, R5, b5⟩
  have I5 := Lib.hid (I4.out.but b5 R5)
  clear b5 R5
  go_wp2_with fail
  refine (rEatF HT.out ⟨#[40]⟩ w5 b A c p t ex false I5.out.R zf).mono ?_
  rintro r w6 ⟨rfl, R6, b6⟩
  have I6 := Lib.hid (I5.out.but b6 R6)
  clear b6 R6
  go_wp2_with fail
  refine (HNm.out w6 I6.out.R).mono ?_
  rintro r w7 ⟨rfl, R7, b7⟩
  have I7 := Lib.hid (I6.out.but b7 R7)
  clear b7 R7
  go_wp2_with fail
  refine (rEatF HT.out ⟨#[46]⟩ w7 b A c (p + 1) t ex false I7.out.R zd).mono ?_
  rintro r w8 ⟨rfl, R8, b8⟩
  have I8 := Lib.hid (I7.out.but b8 R8)
  clear b8 R8
  go_wp2_with fail
  refine (rEatT HT.out ⟨#[40]⟩ w8 b A c (p + 1) t ex I8.out.R yo).mono ?_
  rintro r w9 ⟨rfl, R9, b9⟩
  have I9 := Lib.hid (I8.out.but b9 R9)
  clear b9 R9
  go_wp2_with fail
  refine (rEatF HT.out ⟨#[41]⟩ w9 b A c ((p + 1) + 1) t ex false I9.out.R zc).mono ?_
  rintro r w10 ⟨rfl, R10, b10⟩
  have I10 := Lib.hid (I9.out.but b10 R10)
  clear b10 R10
  go_wp2_with fail
  have HL := H1 (p + 1 + 1) false w10 b A c I10.out.R hr
  rw [hx] at HL
  refine HL.mono ?_
  rintro r w11 ⟨⟨u9, l9, rfl, O11, hl9, -, R11⟩, b11⟩
  change RR w11 b ts A c (p + 1 + 1 + m) false t ex at R11
  have hz11 := I10.out.lt2
  have hz11b := b11.size
  have I11 := Lib.hid (I10.out.but b11 R11)
  have L11 := (O11.got (fun k hk => hk)).keep (S' := fun k => w.heap.size < k) (fun k hk _ => ⟨by omega, rfl⟩) (Nat.le_refl _)
  obtain rfl : l9 = xs := hl9 rfl
  obtain ⟨l8, A9, c9, rfl, hs9, he9⟩ := id L11
  have HLG := Lib.hid L11
  clear O11 L11 b11 R11 HL H1 hs9 he9 hl9
  generalize l8.length = n9 at *
  go_wp2_with fail
  refine (rNeedF HT.out ⟨#[41]⟩ w11 b A c (p + 1 + 1 + m) t ex false I11.out.R hcl).mono ?_
  rintro r w12 ⟨rfl, R12, b12⟩
  have I12 := Lib.hid (I11.out.but b12 R12)
  have L12 := Lib.hid (HLG.out.keep (S' := fun k => w.heap.size < k) (fun k hk hlt => ⟨hk, b12.block k hlt (by have := I11.out.lt; omega)⟩) b12.size)
  clear b12 R12 HLG
  go_wp2_with fail
  refine (rCall1 _ _ _ _ _).mono ?_
  rintro r w13 ⟨rfl, b13⟩
  have IE := Lib.hid (I12.out.later b13)
  have GE : Hid (Got w13 (fun k => w.heap.size < k) (call1 nm l9) true (.agg #[.string ⟨#[99, 97, 108, 108]⟩, .int .i64 0, .int .i64 0, .string ⟨#[]⟩, .string ⟨#[]⟩, .string (str nm), .slice A9 n9 c9])) := Lib.hid ((((L12.out.later b13).whole wCall nm)).more (d' := true) (fun h => by cases h))
  clear b13 L12
  obtain ⟨W9, hW9, q9, HR9, HG9, HB9⟩ := IE.out.put (GE.out)
  have HW9 := Lib.hid hW9
  obtain ⟨x0, x1, x2, x3, x4, x5, x6⟩ := IE.out.q.cells
  obtain ⟨g0, g1, g2, g3, g4, g5, g6⟩ := IE.out.q.free
  obtain ⟨l0, l1, l2, l3, l4, l5, l6⟩ := q9.cells
  clear hW9 q9
  go_wp2_with (rw [← HW9.out])
  exact bodyPost_ret (v := .agg #[.string ⟨#[99, 97, 108, 108]⟩, .int .i64 0, .int .i64 0, .string ⟨#[]⟩, .string ⟨#[]⟩, .string (str nm), .slice A9 n9 c9]) (by simp [results, Tryz.results72, go_sem, l0, l1, l2, l3, l4, l5, l6]) rfl ⟨⟨_, rfl, HG9.out.bad _, HR9.out.eqp (by show _ = p + (1 + (1 + (m + 0))); omega)⟩, HB9.out⟩
set_option maxRecDepth 100000 in
set_option maxHeartbeats 8000000 in
theorem prim_call_bad {ts : List T} (hT : Toks ts) (t : TypeId) (ex : List Value) (v : Nat) (H1 : ListH ts t ex v) (q : Nat) (w : World) (b : Nat) (A : Option Addr) (c p : Nat) (h : RR w b ts A c p false t ex) (h2 : (here (ts.drop p)).k ≠ 2) (h3 : (here (ts.drop p)).k ≠ 3) (h4 : (here (ts.drop p)).k ≠ 4) (za : isD false ⟨#[110, 117, 108, 108]⟩ (ts.drop p) = false) (zb : isD false ⟨#[116, 114, 117, 101]⟩ (ts.drop p) = false) (ze : isD false ⟨#[102, 97, 108, 115, 101]⟩ (ts.drop p) = false) (zf : isD false ⟨#[40]⟩ (ts.drop p) = false) (nm : List UInt8) (hnm : (here (ts.drop p)).s = nm) (hn : isNm resB (ts.drop p) = true) (hc : nm ≠ wCount) (zd : isD false ⟨#[46]⟩ (ts.drop (p + 1)) = false) (yo : isS (⟨#[40]⟩ : ByteArray).data.toList (ts.drop (p + 1)) = true) (zc : isD false ⟨#[41]⟩ (ts.drop (p + 1 + 1)) = false) (hr : rank ts (p + 1 + 1) false ≤ v) (hx : ls resB (ts.drop (p + 1 + 1)) = .error q) :
    Calls Tryz.prog 72 #[.pointer (some ⟨b, 0, none⟩)] w (Rq ts b A c p t ex w (fun k => w.heap.size ≤ k) (badX (1 + (1 + q)))) := by
  have hp := h.hp
  have hlen := hT.len
  have e2 : ((here (ts.drop p)).k == 2) = false := by simpa using h2
  have e3 : ((here (ts.drop p)).k == 3) = false := by simpa using h3
  have e4 : ((here (ts.drop p)).k == 4) = false := by simpa using h4
  have HT := Lib.hid hT
  clear h2 h3 h4
  have HNm0 := fun (W : World) (R : RR W b ts A c p false t ex) => rNameT hT W b A c p t ex R hn
  simp only [hnm] at HNm0
  have HNm := Lib.hid HNm0
  clear HNm0 hnm
  have ec : ((str nm).toList == [99, 111, 117, 110, 116]) = false := by rw [Lib.toList_data, str_list]; simpa [wCount] using hc
  clear hc
  obtain ⟨W1, hW1, I1⟩ := Inv.start h
  have HH := Lib.hid (rHere hT.len W1 b A c p false t ex I1.out.R)
  generalize here (ts.drop p) = u at *
  obtain ⟨uk, us, ui, up⟩ := u
  simp only [T.val] at *
  have HW1 := Lib.hid hW1
  have hbw := h.lt
  clear hW1 h hT
  go_enter Tryz.func72, Tryz.ntmps72
  go_wp2_with (rw [← HW1.out])
  refine (HH.out).mono ?_
  rintro r w2 ⟨rfl, b2⟩
  obtain ⟨W2, hW2, T2, m2⟩ := tbox w2 uk ui (str us) up
  have I2 := Lib.hid ((I1.out.later b2).later m2)
  have HW2 := Lib.hid hW2
  have hw2 : w.heap.size < w2.heap.size := Nat.lt_of_lt_of_le I1.out.lt2 b2.size
  have hw3 : w2.heap.size < W2.heap.size := (Array.getElem?_eq_some_iff.1 T2.out).1
  have k0 : W2.cell? ⟨w2.heap.size, 0, none⟩ = some (.int .i64 uk) := by rw [Lib.cell_of_heap T2.out]; rfl
  have k1 : W2.cell? ⟨w2.heap.size, 1, none⟩ = some (.string (str us)) := by rw [Lib.cell_of_heap T2.out]; rfl
  have k2 : W2.cell? ⟨w2.heap.size, 2, none⟩ = some (.int .i64 ui) := by rw [Lib.cell_of_heap T2.out]; rfl
  obtain ⟨c0, c1, c2, f1, f2⟩ := I2.out.R.cells
  clear hW2 m2 b2 I1 HH HW1
  go_wp2_with (rw [← HW2.out])
  refine (rEatF HT.out ⟨#[110, 117, 108, 108]⟩ W2 b A c p t ex false I2.out.R za).mono ?_
  rintro r w3 ⟨rfl, R3, b3⟩
  have I3 := Lib.hid (I2.out.but b3 R3)
  clear b3 R3
  go_wp2_with fail
  refine (rEatF HT.out ⟨#[116, 114, 117, 101]⟩ w3 b A c p t ex false I3.out.R zb).mono ?_
  rintro r w4 ⟨rfl, R4, b4⟩
  have I4 := Lib.hid (I3.out.but b4 R4)
  clear b4 R4
  go_wp2_with fail
  refine (rEatF HT.out ⟨#[102, 97, 108, 115, 101]⟩ w4 b A c p t ex false I4.out.R ze).mono ?_
  rintro r w5 ⟨rfl, R5, b5⟩
  have I5 := Lib.hid (I4.out.but b5 R5)
  clear b5 R5
  go_wp2_with fail
  refine (rEatF HT.out ⟨#[40]⟩ w5 b A c p t ex false I5.out.R zf).mono ?_
  rintro r w6 ⟨rfl, R6, b6⟩
  have I6 := Lib.hid (I5.out.but b6 R6)
  clear b6 R6
  go_wp2_with fail
  refine (HNm.out w6 I6.out.R).mono ?_
  rintro r w7 ⟨rfl, R7, b7⟩
  have I7 := Lib.hid (I6.out.but b7 R7)
  clear b7 R7
  go_wp2_with fail
  refine (rEatF HT.out ⟨#[46]⟩ w7 b A c (p + 1) t ex false I7.out.R zd).mono ?_
  rintro r w8 ⟨rfl, R8, b8⟩
  have I8 := Lib.hid (I7.out.but b8 R8)
  clear b8 R8
  go_wp2_with fail
  refine (rEatT HT.out ⟨#[40]⟩ w8 b A c (p + 1) t ex I8.out.R yo).mono ?_
  rintro r w9 ⟨rfl, R9, b9⟩
  have I9 := Lib.hid (I8.out.but b9 R9)
  clear b9 R9
  go_wp2_with fail
  refine (rEatF HT.out ⟨#[41]⟩ w9 b A c ((p + 1) + 1) t ex false I9.out.R zc).mono ?_
  rintro r w10 ⟨rfl, R10, b10⟩
  have I10 := Lib.hid (I9.out.but b10 R10)
  clear b10 R10
  go_wp2_with fail
  have HL := H1 (p + 1 + 1) false w10 b A c I10.out.R hr
  rw [hx] at HL
  refine HL.mono ?_
  rintro r w11 ⟨⟨u9, l9, rfl, O11, hl9, -, R11⟩, b11⟩
  change RR w11 b ts A c (p + 1 + 1 + q) true t ex at R11
  have hz11 := I10.out.lt2
  have hz11b := b11.size
  have I11 := Lib.hid (I10.out.but b11 R11)
  have L11 := (O11.got (fun k hk => hk)).keep (S' := fun k => w.heap.size < k) (fun k hk _ => ⟨by omega, rfl⟩) (Nat.le_refl _)
  obtain ⟨l8, A9, c9, rfl, hs9, he9⟩ := id L11
  have HLG := Lib.hid L11
  clear O11 L11 b11 R11 HL H1 hs9 he9 hl9
  generalize l8.length = n9 at *
  go_wp2_with fail
  refine (rNeedF HT.out ⟨#[41]⟩ w11 b A c (p + 1 + 1 + q) t ex true I11.out.R rfl).mono ?_
  rintro r w12 ⟨rfl, R12, b12⟩
  have I12 := Lib.hid (I11.out.but b12 R12)
  have L12 := Lib.hid (HLG.out.keep (S' := fun k => w.heap.size < k) (fun k hk hlt => ⟨hk, b12.block k hlt (by have := I11.out.lt; omega)⟩) b12.size)
  clear b12 R12 HLG
  go_wp2_with fail
  refine (rCall1 _ _ _ _ _).mono ?_
  rintro r w13 ⟨rfl, b13⟩
  have IE := Lib.hid (I12.out.later b13)
  have GE : Hid (Got w13 (fun k => w.heap.size < k) (call1 nm l9) true (.agg #[.string ⟨#[99, 97, 108, 108]⟩, .int .i64 0, .int .i64 0, .string ⟨#[]⟩, .string ⟨#[]⟩, .string (str nm), .slice A9 n9 c9])) := Lib.hid ((((L12.out.later b13).whole wCall nm)).more (d' := true) (fun h => by cases h))
  clear b13 L12
  obtain ⟨W9, hW9, q9, HR9, HG9, HB9⟩ := IE.out.put (GE.out)
  have HW9 := Lib.hid hW9
  obtain ⟨x0, x1, x2, x3, x4, x5, x6⟩ := IE.out.q.cells
  obtain ⟨g0, g1, g2, g3, g4, g5, g6⟩ := IE.out.q.free
  obtain ⟨l0, l1, l2, l3, l4, l5, l6⟩ := q9.cells
  clear hW9 q9
  go_wp2_with (rw [← HW9.out])
  exact bodyPost_ret (v := .agg #[.string ⟨#[99, 97, 108, 108]⟩, .int .i64 0, .int .i64 0, .string ⟨#[]⟩, .string ⟨#[]⟩, .string (str nm), .slice A9 n9 c9]) (by simp [results, Tryz.results72, go_sem, l0, l1, l2, l3, l4, l5, l6]) rfl ⟨⟨_, rfl, HG9.out.bad _, HR9.out.eqp (by show _ = p + (1 + (1 + q)); omega)⟩, HB9.out⟩
set_option maxRecDepth 100000 in
set_option maxHeartbeats 8000000 in
theorem prim_call_ok_c {ts : List T} (hT : Toks ts) (t : TypeId) (ex : List Value) (v : Nat) (H1 : ListH ts t ex v) (xs : List E) (m : Nat) (w : World) (b : Nat) (A : Option Addr) (c p : Nat) (h : RR w b ts A c p false t ex) (h2 : (here (ts.drop p)).k ≠ 2) (h3 : (here (ts.drop p)).k ≠ 3) (h4 : (here (ts.drop p)).k ≠ 4) (za : isD false ⟨#[110, 117, 108, 108]⟩ (ts.drop p) = false) (zb : isD false ⟨#[116, 114, 117, 101]⟩ (ts.drop p) = false) (ze : isD false ⟨#[102, 97, 108, 115, 101]⟩ (ts.drop p) = false) (zf : isD false ⟨#[40]⟩ (ts.drop p) = false) (nm : List UInt8) (hnm : (here (ts.drop p)).s = nm) (hn : isNm resB (ts.drop p) = true) (hc : nm = wCount) (zd : isD false ⟨#[46]⟩ (ts.drop (p + 1)) = false) (yo : isS (⟨#[40]⟩ : ByteArray).data.toList (ts.drop (p + 1)) = true) (zc : isD false ⟨#[41]⟩ (ts.drop (p + 1 + 1)) = false) (zs : isD false ⟨#[42]⟩ (ts.drop (p + 1 + 1)) = false) (hr : rank ts (p + 1 + 1) false ≤ v) (hx : ls resB (ts.drop (p + 1 + 1)) = .ok (xs, m)) (hcl : isS (⟨#[41]⟩ : ByteArray).data.toList (ts.drop (p + 1 + 1 + m)) = true) :
    Calls Tryz.prog 72 #[.pointer (some ⟨b, 0, none⟩)] w (Rq ts b A c p t ex w (fun k => w.heap.size ≤ k) (okX (call1 nm xs) (1 + (1 + (m + (1 + 0)))))) := by
  have hp := h.hp
  have hlen := hT.len
  have e2 : ((here (ts.drop p)).k == 2) = false := by simpa using h2
  have e3 : ((here (ts.drop p)).k == 3) = false := by simpa using h3
  have e4 : ((here (ts.drop p)).k == 4) = false := by simpa using h4
  have HT := Lib.hid hT
  clear h2 h3 h4
  have HNm0 := fun (W : World) (R : RR W b ts A c p false t ex) => rNameT hT W b A c p t ex R hn
  simp only [hnm] at HNm0
  have HNm := Lib.hid HNm0
  clear HNm0 hnm
  have ec : ((str nm).toList == [99, 111, 117, 110, 116]) = true := by rw [hc, Lib.toList_data, str_list]; rfl
  clear hc
  obtain ⟨W1, hW1, I1⟩ := Inv.start h
  have HH := Lib.hid (rHere hT.len W1 b A c p false t ex I1.out.R)
  generalize here (ts.drop p) = u at *
  obtain ⟨uk, us, ui, up⟩ := u
  simp only [T.val] at *
  have HW1 := Lib.hid hW1
  have hbw := h.lt
  clear hW1 h hT
  go_enter Tryz.func72, Tryz.ntmps72
  go_wp2_with (rw [← HW1.out])
  refine (HH.out).mono ?_
  rintro r w2 ⟨rfl, b2⟩
  obtain ⟨W2, hW2, T2, m2⟩ := tbox w2 uk ui (str us) up
  have I2 := Lib.hid ((I1.out.later b2).later m2)
  have HW2 := Lib.hid hW2
  have hw2 : w.heap.size < w2.heap.size := Nat.lt_of_lt_of_le I1.out.lt2 b2.size
  have hw3 : w2.heap.size < W2.heap.size := (Array.getElem?_eq_some_iff.1 T2.out).1
  have k0 : W2.cell? ⟨w2.heap.size, 0, none⟩ = some (.int .i64 uk) := by rw [Lib.cell_of_heap T2.out]; rfl
  have k1 : W2.cell? ⟨w2.heap.size, 1, none⟩ = some (.string (str us)) := by rw [Lib.cell_of_heap T2.out]; rfl
  have k2 : W2.cell? ⟨w2.heap.size, 2, none⟩ = some (.int .i64 ui) := by rw [Lib.cell_of_heap T2.out]; rfl
  obtain ⟨c0, c1, c2, f1, f2⟩ := I2.out.R.cells
  clear hW2 m2 b2 I1 HH HW1
  go_wp2_with (rw [← HW2.out])
  refine (rEatF HT.out ⟨#[110, 117, 108, 108]⟩ W2 b A c p t ex false I2.out.R za).mono ?_
  rintro r w3 ⟨rfl, R3, b3⟩
  have I3 := Lib.hid (I2.out.but b3 R3)
  clear b3 R3
  go_wp2_with fail
  refine (rEatF HT.out ⟨#[116, 114, 117, 101]⟩ w3 b A c p t ex false I3.out.R zb).mono ?_
  rintro r w4 ⟨rfl, R4, b4⟩
  have I4 := Lib.hid (I3.out.but b4 R4)
  clear b4 R4
  go_wp2_with fail
  refine (rEatF HT.out ⟨#[102, 97, 108, 115, 101]⟩ w4 b A c p t ex false I4.out.R ze).mono ?_
  rintro r w5 ⟨rfl, R5, b5⟩
  have I5 := Lib.hid (I4.out.but b5 R5)
  clear b5 R5
  go_wp2_with fail
  refine (rEatF HT.out ⟨#[40]⟩ w5 b A c p t ex false I5.out.R zf).mono ?_
  rintro r w6 ⟨rfl, R6, b6⟩
  have I6 := Lib.hid (I5.out.but b6 R6)
  clear b6 R6
  go_wp2_with fail
  refine (HNm.out w6 I6.out.R).mono ?_
  rintro r w7 ⟨rfl, R7, b7⟩
  have I7 := Lib.hid (I6.out.but b7 R7)
  clear b7 R7
  go_wp2_with fail
  refine (rEatF HT.out ⟨#[46]⟩ w7 b A c (p + 1) t ex false I7.out.R zd).mono ?_
  rintro r w8 ⟨rfl, R8, b8⟩
  have I8 := Lib.hid (I7.out.but b8 R8)
  clear b8 R8
  go_wp2_with fail
  refine (rEatT HT.out ⟨#[40]⟩ w8 b A c (p + 1) t ex I8.out.R yo).mono ?_
  rintro r w9 ⟨rfl, R9, b9⟩
  have I9 := Lib.hid (I8.out.but b9 R9)
  clear b9 R9
  go_wp2_with fail
  refine (rEatF HT.out ⟨#[41]⟩ w9 b A c ((p + 1) + 1) t ex false I9.out.R zc).mono ?_
  rintro r w10 ⟨rfl, R10, b10⟩
  have I10 := Lib.hid (I9.out.but b10 R10)
  clear b10 R10
  go_wp2_with fail
  refine (rEatF HT.out ⟨#[42]⟩ w10 b A c ((p + 1) + 1) t ex false I10.out.R zs).mono ?_
  rintro r w11 ⟨rfl, R11, b11⟩
  have I11 := Lib.hid (I10.out.but b11 R11)
  clear b11 R11
  go_wp2_with fail
  have HL := H1 (p + 1 + 1) false w11 b A c I11.out.R hr
  rw [hx] at HL
  refine HL.mono ?_
  rintro r w12 ⟨⟨u9, l9, rfl, O12, hl9, -, R12⟩, b12⟩
  change RR w12 b ts A c (p + 1 + 1 + m) false t ex at R12
  have hz12 := I11.out.lt2
  have hz12b := b12.size
  have I12 := Lib.hid (I11.out.but b12 R12)
  have L12 := (O12.got (fun k hk => hk)).keep (S' := fun k => w.heap.size < k) (fun k hk _ => ⟨by omega, rfl⟩) (Nat.le_refl _)
  obtain rfl : l9 = xs := hl9 rfl
  obtain ⟨l8, A9, c9, rfl, hs9, he9⟩ := id L12
  have HLG := Lib.hid L12
  clear O12 L12 b12 R12 HL H1 hs9 he9 hl9
  generalize l8.length = n9 at *
  go_wp2_with fail
  refine (rNeedT HT.out ⟨#[41]⟩ w12 b A c (p + 1 + 1 + m) t ex I12.out.R hcl).mono ?_
  rintro r w13 ⟨rfl, R13, b13⟩
  have I13 := Lib.hid (I12.out.but b13 R13)
  have L13 := Lib.hid (HLG.out.keep (S' := fun k => w.heap.size < k) (fun k hk hlt => ⟨hk, b13.block k hlt (by have := I12.out.lt; omega)⟩) b13.size)
  clear b13 R13 HLG
  go_wp2_with fail
  refine (rCall1 _ _ _ _ _).mono ?_
  rintro r w14 ⟨rfl, b14⟩
  have IE := Lib.hid (I13.out.later b14)
  have GE : Hid (Got w14 (fun k => w.heap.size < k) (call1 nm l9) false (.agg #[.string ⟨#[99, 97, 108, 108]⟩, .int .i64 0, .int .i64 0, .string ⟨#[]⟩, .string ⟨#[]⟩, .string (str nm), .slice A9 n9 c9])) := Lib.hid ((((L13.out.later b14).whole wCall nm)))
  clear b14 L13
  obtain ⟨W9, hW9, q9, HR9, HG9, HB9⟩ := IE.out.put (GE.out)
  have HW9 := Lib.hid hW9
  obtain ⟨x0, x1, x2, x3, x4, x5, x6⟩ := IE.out.q.cells
  obtain ⟨g0, g1, g2, g3, g4, g5, g6⟩ := IE.out.q.free
  obtain ⟨l0, l1, l2, l3, l4, l5, l6⟩ := q9.cells
  clear hW9 q9
  go_wp2_with (rw [← HW9.out])
  exact bodyPost_ret (v := .agg #[.string ⟨#[99, 97, 108, 108]⟩, .int .i64 0, .int .i64 0, .string ⟨#[]⟩, .string ⟨#[]⟩, .string (str nm), .slice A9 n9 c9]) (by simp [results, Tryz.results72, go_sem, l0, l1, l2, l3, l4, l5, l6]) rfl ⟨⟨_, rfl, HG9.out, HR9.out.eqp (by show _ = p + (1 + (1 + (m + (1 + 0)))); omega)⟩, HB9.out⟩
set_option maxRecDepth 100000 in
set_option maxHeartbeats 8000000 in
theorem prim_call_no_c {ts : List T} (hT : Toks ts) (t : TypeId) (ex : List Value) (v : Nat) (H1 : ListH ts t ex v) (xs : List E) (m : Nat) (w : World) (b : Nat) (A : Option Addr) (c p : Nat) (h : RR w b ts A c p false t ex) (h2 : (here (ts.drop p)).k ≠ 2) (h3 : (here (ts.drop p)).k ≠ 3) (h4 : (here (ts.drop p)).k ≠ 4) (za : isD false ⟨#[110, 117, 108, 108]⟩ (ts.drop p) = false) (zb : isD false ⟨#[116, 114, 117, 101]⟩ (ts.drop p) = false) (ze : isD false ⟨#[102, 97, 108, 115, 101]⟩ (ts.drop p) = false) (zf : isD false ⟨#[40]⟩ (ts.drop p) = false) (nm : List UInt8) (hnm : (here (ts.drop p)).s = nm) (hn : isNm resB (ts.drop p) = true) (hc : nm = wCount) (zd : isD false ⟨#[46]⟩ (ts.drop (p + 1)) = false) (yo : isS (⟨#[40]⟩ : ByteArray).data.toList (ts.drop (p + 1)) = true) (zc : isD false ⟨#[41]⟩ (ts.drop (p + 1 + 1)) = false) (zs : isD false ⟨#[42]⟩ (ts.drop (p + 1 + 1)) = false) (hr : rank ts (p + 1 + 1) false ≤ v) (hx : ls resB (ts.drop (p + 1 + 1)) = .ok (xs, m)) (hcl : isD false ⟨#[41]⟩ (ts.drop (p + 1 + 1 + m)) = false) :
    Calls Tryz.prog 72 #[.pointer (some ⟨b, 0, none⟩)] w (Rq ts b A c p t ex w (fun k => w.heap.size ≤ k) (badX (1 + (1 + (m + 0))))) := by
  have hp := h.hp
  have hlen := hT.len
  have e2 : ((here (ts.drop p)).k == 2) = false := by simpa using h2
  have e3 : ((here (ts.drop p)).k == 3) = false := by simpa using h3
  have e4 : ((here (ts.drop p)).k == 4) = false := by simpa using h4
  have HT := Lib.hid hT
  clear h2 h3 h4
  have HNm0 := fun (W : World) (R : RR W b ts A c p false t ex) => rNameT hT W b A c p t ex R hn
  simp only [hnm] at HNm0
  have HNm := Lib.hid HNm0
  clear HNm0 hnm
  have ec : ((str nm).toList == [99, 111, 117, 110, 116]) = true := by rw [hc, Lib.toList_data, str_list]; rfl
  clear hc
  obtain ⟨W1, hW1, I1⟩ := Inv.start h
  have HH := Lib.hid (rHere hT.len W1 b A c p false t ex I1.out.R)
  generalize here (ts.drop p) = u at *
  obtain ⟨uk, us, ui, up⟩ := u
  simp only [T.val] at *
  have HW1 := Lib.hid hW1
  have hbw := h.lt
  clear hW1 h hT
  go_enter Tryz.func72, Tryz.ntmps72
  go_wp2_with (rw [← HW1.out])
  refine (HH.out).mono ?_
  rintro r w2 ⟨rfl, b2⟩
  obtain ⟨W2, hW2, T2, m2⟩ := tbox w2 uk ui (str us) up
  have I2 := Lib.hid ((I1.out.later b2).later m2)
  have HW2 := Lib.hid hW2
  have hw2 : w.heap.size < w2.heap.size := Nat.lt_of_lt_of_le I1.out.lt2 b2.size
  have hw3 : w2.heap.size < W2.heap.size := (Array.getElem?_eq_some_iff.1 T2.out).1
  have k0 : W2.cell? ⟨w2.heap.size, 0, none⟩ = some (.int .i64 uk) := by rw [Lib.cell_of_heap T2.out]; rfl
  have k1 : W2.cell? ⟨w2.heap.size, 1, none⟩ = some (.string (str us)) := by rw [Lib.cell_of_heap T2.out]; rfl
  have k2 : W2.cell? ⟨w2.heap.size, 2, none⟩ = some (.int .i64 ui) := by rw [Lib.cell_of_heap T2.out]; rfl
  obtain ⟨c0, c1, c2, f1, f2⟩ := I2.out.R.cells
  clear hW2 m2 b2 I1 HH HW1
  go_wp2_with (rw [← HW2.out])
  refine (rEatF HT.out ⟨#[110, 117, 108, 108]⟩ W2 b A c p t ex false I2.out.R za).mono ?_
  rintro r w3 ⟨rfl, R3, b3⟩
  have I3 := Lib.hid (I2.out.but b3 R3)
  clear b3 R3
  go_wp2_with fail
  refine (rEatF HT.out ⟨#[116, 114, 117, 101]⟩ w3 b A c p t ex false I3.out.R zb).mono ?_
  rintro r w4 ⟨rfl, R4, b4⟩
  have I4 := Lib.hid (I3.out.but b4 R4)
  clear b4 R4
  go_wp2_with fail
  refine (rEatF HT.out ⟨#[102, 97, 108, 115, 101]⟩ w4 b A c p t ex false I4.out.R ze).mono ?_
  rintro r w5 ⟨rfl, R5, b5⟩
  have I5 := Lib.hid (I4.out.but b5 R5)
  clear b5 R5
  go_wp2_with fail
  refine (rEatF HT.out ⟨#[40]⟩ w5 b A c p t ex false I5.out.R zf).mono ?_
  rintro r w6 ⟨rfl, R6, b6⟩
  have I6 := Lib.hid (I5.out.but b6 R6)
  clear b6 R6
  go_wp2_with fail
  refine (HNm.out w6 I6.out.R).mono ?_
  rintro r w7 ⟨rfl, R7, b7⟩
  have I7 := Lib.hid (I6.out.but b7 R7)
  clear b7 R7
  go_wp2_with fail
  refine (rEatF HT.out ⟨#[46]⟩ w7 b A c (p + 1) t ex false I7.out.R zd).mono ?_
  rintro r w8 ⟨rfl, R8, b8⟩
  have I8 := Lib.hid (I7.out.but b8 R8)
  clear b8 R8
  go_wp2_with fail
  refine (rEatT HT.out ⟨#[40]⟩ w8 b A c (p + 1) t ex I8.out.R yo).mono ?_
  rintro r w9 ⟨rfl, R9, b9⟩
  have I9 := Lib.hid (I8.out.but b9 R9)
  clear b9 R9
  go_wp2_with fail
  refine (rEatF HT.out ⟨#[41]⟩ w9 b A c ((p + 1) + 1) t ex false I9.out.R zc).mono ?_
  rintro r w10 ⟨rfl, R10, b10⟩
  have I10 := Lib.hid (I9.out.but b10 R10)
  clear b10 R10
  go_wp2_with fail
  refine (rEatF HT.out ⟨#[42]⟩ w10 b A c ((p + 1) + 1) t ex false I10.out.R zs).mono ?_
  rintro r w11 ⟨rfl, R11, b11⟩
  have I11 := Lib.hid (I10.out.but b11 R11)
  clear b11 R11
  go_wp2_with fail
  have HL := H1 (p + 1 + 1) false w11 b A c I11.out.R hr
  rw [hx] at HL
  refine HL.mono ?_
  rintro r w12 ⟨⟨u9, l9, rfl, O12, hl9, -, R12⟩, b12⟩
  change RR w12 b ts A c (p + 1 + 1 + m) false t ex at R12
  have hz12 := I11.out.lt2
  have hz12b := b12.size
  have I12 := Lib.hid (I11.out.but b12 R12)
  have L12 := (O12.got (fun k hk => hk)).keep (S' := fun k => w.heap.size < k) (fun k hk _ => ⟨by omega, rfl⟩) (Nat.le_refl _)
  obtain rfl : l9 = xs := hl9 rfl
  obtain ⟨l8, A9, c9, rfl, hs9, he9⟩ := id L12
  have HLG := Lib.hid L12
  clear O12 L12 b12 R12 HL H1 hs9 he9 hl9
  generalize l8.length = n9 at *
  go_wp2_with fail
  refine (rNeedF HT.out ⟨#[41]⟩ w12 b A c (p + 1 + 1 + m) t ex false I12.out.R hcl).mono ?_
  rintro r w13 ⟨rfl, R13, b13⟩
  have I13 := Lib.hid (I12.out.but b13 R13)
  have L13 := Lib.hid (HLG.out.keep (S' := fun k => w.heap.size < k) (fun k hk hlt => ⟨hk, b13.block k hlt (by have := I12.out.lt; omega)⟩) b13.size)
  clear b13 R13 HLG
  go_wp2_with fail
  refine (rCall1 _ _ _ _ _).mono ?_
  rintro r w14 ⟨rfl, b14⟩
  have IE := Lib.hid (I13.out.later b14)
  have GE : Hid (Got w14 (fun k => w.heap.size < k) (call1 nm l9) true (.agg #[.string ⟨#[99, 97, 108, 108]⟩, .int .i64 0, .int .i64 0, .string ⟨#[]⟩, .string ⟨#[]⟩, .string (str nm), .slice A9 n9 c9])) := Lib.hid ((((L13.out.later b14).whole wCall nm)).more (d' := true) (fun h => by cases h))
  clear b14 L13
  obtain ⟨W9, hW9, q9, HR9, HG9, HB9⟩ := IE.out.put (GE.out)
  have HW9 := Lib.hid hW9
  obtain ⟨x0, x1, x2, x3, x4, x5, x6⟩ := IE.out.q.cells
  obtain ⟨g0, g1, g2, g3, g4, g5, g6⟩ := IE.out.q.free
  obtain ⟨l0, l1, l2, l3, l4, l5, l6⟩ := q9.cells
  clear hW9 q9
  go_wp2_with (rw [← HW9.out])
  exact bodyPost_ret (v := .agg #[.string ⟨#[99, 97, 108, 108]⟩, .int .i64 0, .int .i64 0, .string ⟨#[]⟩, .string ⟨#[]⟩, .string (str nm), .slice A9 n9 c9]) (by simp [results, Tryz.results72, go_sem, l0, l1, l2, l3, l4, l5, l6]) rfl ⟨⟨_, rfl, HG9.out.bad _, HR9.out.eqp (by show _ = p + (1 + (1 + (m + 0))); omega)⟩, HB9.out⟩
set_option maxRecDepth 100000 in
set_option maxHeartbeats 8000000 in
theorem prim_call_bad_c {ts : List T} (hT : Toks ts) (t : TypeId) (ex : List Value) (v : Nat) (H1 : ListH ts t ex v) (q : Nat) (w : World) (b : Nat) (A : Option Addr) (c p : Nat) (h : RR w b ts A c p false t ex) (h2 : (here (ts.drop p)).k ≠ 2) (h3 : (here (ts.drop p)).k ≠ 3) (h4 : (here (ts.drop p)).k ≠ 4) (za : isD false ⟨#[110, 117, 108, 108]⟩ (ts.drop p) = false) (zb : isD false ⟨#[116, 114, 117, 101]⟩ (ts.drop p) = false) (ze : isD false ⟨#[102, 97, 108, 115, 101]⟩ (ts.drop p) = false) (zf : isD false ⟨#[40]⟩ (ts.drop p) = false) (nm : List UInt8) (hnm : (here (ts.drop p)).s = nm) (hn : isNm resB (ts.drop p) = true) (hc : nm = wCount) (zd : isD false ⟨#[46]⟩ (ts.drop (p + 1)) = false) (yo : isS (⟨#[40]⟩ : ByteArray).data.toList (ts.drop (p + 1)) = true) (zc : isD false ⟨#[41]⟩ (ts.drop (p + 1 + 1)) = false) (zs : isD false ⟨#[42]⟩ (ts.drop (p + 1 + 1)) = false) (hr : rank ts (p + 1 + 1) false ≤ v) (hx : ls resB (ts.drop (p + 1 + 1)) = .error q) :
    Calls Tryz.prog 72 #[.pointer (some ⟨b, 0, none⟩)] w (Rq ts b A c p t ex w (fun k => w.heap.size ≤ k) (badX (1 + (1 + q)))) := by
  have hp := h.hp
  have hlen := hT.len
  have e2 : ((here (ts.drop p)).k == 2) = false := by simpa using h2
  have e3 : ((here (ts.drop p)).k == 3) = false := by simpa using h3
  have e4 : ((here (ts.drop p)).k == 4) = false := by simpa using h4
  have HT := Lib.hid hT
  clear h2 h3 h4
  have HNm0 := fun (W : World) (R : RR W b ts A c p false t ex) => rNameT hT W b A c p t ex R hn
  simp only [hnm] at HNm0
  have HNm := Lib.hid HNm0
  clear HNm0 hnm
  have ec : ((str nm).toList == [99, 111, 117, 110, 116]) = true := by rw [hc, Lib.toList_data, str_list]; rfl
  clear hc
  obtain ⟨W1, hW1, I1⟩ := Inv.start h
  have HH := Lib.hid (rHere hT.len W1 b A c p false t ex I1.out.R)
  generalize here (ts.drop p) = u at *
  obtain ⟨uk, us, ui, up⟩ := u
  simp only [T.val] at *
  have HW1 := Lib.hid hW1
  have hbw := h.lt
  clear hW1 h hT
  go_enter Tryz.func72, Tryz.ntmps72
  go_wp2_with (rw [← HW1.out])
  refine (HH.out).mono ?_
  rintro r w2 ⟨rfl, b2⟩
  obtain ⟨W2, hW2, T2, m2⟩ := tbox w2 uk ui (str us) up
  have I2 := Lib.hid ((I1.out.later b2).later m2)
  have HW2 := Lib.hid hW2
  have hw2 : w.heap.size < w2.heap.size := Nat.lt_of_lt_of_le I1.out.lt2 b2.size
  have hw3 : w2.heap.size < W2.heap.size := (Array.getElem?_eq_some_iff.1 T2.out).1
  have k0 : W2.cell? ⟨w2.heap.size, 0, none⟩ = some (.int .i64 uk) := by rw [Lib.cell_of_heap T2.out]; rfl
  have k1 : W2.cell? ⟨w2.heap.size, 1, none⟩ = some (.string (str us)) := by rw [Lib.cell_of_heap T2.out]; rfl
  have k2 : W2.cell? ⟨w2.heap.size, 2, none⟩ = some (.int .i64 ui) := by rw [Lib.cell_of_heap T2.out]; rfl
  obtain ⟨c0, c1, c2, f1, f2⟩ := I2.out.R.cells
  clear hW2 m2 b2 I1 HH HW1
  go_wp2_with (rw [← HW2.out])
  refine (rEatF HT.out ⟨#[110, 117, 108, 108]⟩ W2 b A c p t ex false I2.out.R za).mono ?_
  rintro r w3 ⟨rfl, R3, b3⟩
  have I3 := Lib.hid (I2.out.but b3 R3)
  clear b3 R3
  go_wp2_with fail
  refine (rEatF HT.out ⟨#[116, 114, 117, 101]⟩ w3 b A c p t ex false I3.out.R zb).mono ?_
  rintro r w4 ⟨rfl, R4, b4⟩
  have I4 := Lib.hid (I3.out.but b4 R4)
  clear b4 R4
  go_wp2_with fail
  refine (rEatF HT.out ⟨#[102, 97, 108, 115, 101]⟩ w4 b A c p t ex false I4.out.R ze).mono ?_
  rintro r w5 ⟨rfl, R5, b5⟩
  have I5 := Lib.hid (I4.out.but b5 R5)
  clear b5 R5
  go_wp2_with fail
  refine (rEatF HT.out ⟨#[40]⟩ w5 b A c p t ex false I5.out.R zf).mono ?_
  rintro r w6 ⟨rfl, R6, b6⟩
  have I6 := Lib.hid (I5.out.but b6 R6)
  clear b6 R6
  go_wp2_with fail
  refine (HNm.out w6 I6.out.R).mono ?_
  rintro r w7 ⟨rfl, R7, b7⟩
  have I7 := Lib.hid (I6.out.but b7 R7)
  clear b7 R7
  go_wp2_with fail
  refine (rEatF HT.out ⟨#[46]⟩ w7 b A c (p + 1) t ex false I7.out.R zd).mono ?_
  rintro r w8 ⟨rfl, R8, b8⟩
  have I8 := Lib.hid (I7.out.but b8 R8)
  clear b8 R8
  go_wp2_with fail
  refine (rEatT HT.out ⟨#[40]⟩ w8 b A c (p + 1) t ex I8.out.R yo).mono ?_
  rintro r w9 ⟨rfl, R9, b9⟩
  have I9 := Lib.hid (I8.out.but b9 R9)
  clear b9 R9
  go_wp2_with fail
  refine (rEatF HT.out ⟨#[41]⟩ w9 b A c ((p + 1) + 1) t ex false I9.out.R zc).mono ?_
  rintro r w10 ⟨rfl, R10, b10⟩
  have I10 := Lib.hid (I9.out.but b10 R10)
  clear b10 R10
  go_wp2_with fail
  refine (rEatF HT.out ⟨#[42]⟩ w10 b A c ((p + 1) + 1) t ex false I10.out.R zs).mono ?_
  rintro r w11 ⟨rfl, R11, b11⟩
  have I11 := Lib.hid (I10.out.but b11 R11)
  clear b11 R11
  go_wp2_with fail
  have HL := H1 (p + 1 + 1) false w11 b A c I11.out.R hr
  rw [hx] at HL
  refine HL.mono ?_
  rintro r w12 ⟨⟨u9, l9, rfl, O12, hl9, -, R12⟩, b12⟩
  change RR w12 b ts A c (p + 1 + 1 + q) true t ex at R12
  have hz12 := I11.out.lt2
  have hz12b := b12.size
  have I12 := Lib.hid (I11.out.but b12 R12)
  have L12 := (O12.got (fun k hk => hk)).keep (S' := fun k => w.heap.size < k) (fun k hk _ => ⟨by omega, rfl⟩) (Nat.le_refl _)
  obtain ⟨l8, A9, c9, rfl, hs9, he9⟩ := id L12
  have HLG := Lib.hid L12
  clear O12 L12 b12 R12 HL H1 hs9 he9 hl9
  generalize l8.length = n9 at *
  go_wp2_with fail
  refine (rNeedF HT.out ⟨#[41]⟩ w12 b A c (p + 1 + 1 + q) t ex true I12.out.R rfl).mono ?_
  rintro r w13 ⟨rfl, R13, b13⟩
  have I13 := Lib.hid (I12.out.but b13 R13)
  have L13 := Lib.hid (HLG.out.keep (S' := fun k => w.heap.size < k) (fun k hk hlt => ⟨hk, b13.block k hlt (by have := I12.out.lt; omega)⟩) b13.size)
  clear b13 R13 HLG
  go_wp2_with fail
  refine (rCall1 _ _ _ _ _).mono ?_
  rintro r w14 ⟨rfl, b14⟩
  have IE := Lib.hid (I13.out.later b14)
  have GE : Hid (Got w14 (fun k => w.heap.size < k) (call1 nm l9) true (.agg #[.string ⟨#[99, 97, 108, 108]⟩, .int .i64 0, .int .i64 0, .string ⟨#[]⟩, .string ⟨#[]⟩, .string (str nm), .slice A9 n9 c9])) := Lib.hid ((((L13.out.later b14).whole wCall nm)).more (d' := true) (fun h => by cases h))
  clear b14 L13
  obtain ⟨W9, hW9, q9, HR9, HG9, HB9⟩ := IE.out.put (GE.out)
  have HW9 := Lib.hid hW9
  obtain ⟨x0, x1, x2, x3, x4, x5, x6⟩ := IE.out.q.cells
  obtain ⟨g0, g1, g2, g3, g4, g5, g6⟩ := IE.out.q.free
  obtain ⟨l0, l1, l2, l3, l4, l5, l6⟩ := q9.cells
  clear hW9 q9
  go_wp2_with (rw [← HW9.out])
  exact bodyPost_ret (v := .agg #[.string ⟨#[99, 97, 108, 108]⟩, .int .i64 0, .int .i64 0, .string ⟨#[]⟩, .string ⟨#[]⟩, .string (str nm), .slice A9 n9 c9]) (by simp [results, Tryz.results72, go_sem, l0, l1, l2, l3, l4, l5, l6]) rfl ⟨⟨_, rfl, HG9.out.bad _, HR9.out.eqp (by show _ = p + (1 + (1 + q)); omega)⟩, HB9.out⟩
end Go.Proofs.YthohfegnphocbaaGreatDoor
namespace Go.Proofs.YthohfegnphocbaaGreatDoor
open Go.RowKit
theorem kind_isS {s : List UInt8} {l : List T} (h1 : (here l).k ≠ 1) (h5 : (here l).k ≠ 5) : isS s l = false := by
  unfold isS
  have e1 : ((here l).k == 1) = false := by simpa using h1
  have e5 : ((here l).k == 5) = false := by simpa using h5
  rw [e1, e5]; rfl
theorem kind_isNm {l : List T} (h1 : (here l).k ≠ 1) : isNm resB l = false := by
  unfold isNm
  have e1 : ((here l).k == 1) = false := by simpa using h1
  rw [e1]; rfl
theorem rPrim {ts : List T} (hT : Toks ts) (t : TypeId) (ex : List Value) (v : Nat) (H1 : LineH ts t ex v 1) (HL : ListH ts t ex v) (p : Nat) (d : Bool) (w : World) (b : Nat) (A : Option Addr) (c : Nat) (h : RR w b ts A c p d t ex) (hr : rank ts p d ≤ v + 1) :
    Calls Tryz.prog 72 #[.pointer (some ⟨b, 0, none⟩)] w (Rq ts b A c p t ex w (fun k => w.heap.size ≤ k) (xd d (pr resB (ts.drop p)))) := by
  have hp := h.hp
  cases d with
  | true => exact prim_bad hT t ex w b A c p h
  | false =>
    rw [xd_f, pr_eq]
    by_cases c1 : (here (ts.drop p)).k = 2
    · have e1 : ((here (ts.drop p)).k == 2) = true := by simpa using c1
      by_cases ci : 0 ≤ (here (ts.drop p)).i
      · rw [if_pos (by rw [e1, decide_eq_true ci]; rfl)]
        exact prim_num hT t ex w b A c p h c1 ci
      · have k1 : (here (ts.drop p)).k ≠ 1 := by rw [c1]; decide
        have k5 : (here (ts.drop p)).k ≠ 5 := by rw [c1]; decide
        rw [if_neg (by rw [e1, decide_eq_false ci]; decide), if_neg (by rw [c1]; decide), if_neg (by rw [c1]; decide), if_neg (by rw [kind_isS k1 k5]; decide), if_neg (by rw [kind_isS k1 k5]; decide), if_neg (by rw [kind_isS k1 k5]; decide), if_neg (by rw [kind_isS k1 k5]; decide)]
        have hX : nmX resB (ts.drop p) = badX 0 := by unfold nmX nameX; rw [kind_isNm k1]; rfl
        rw [hX]
        exact prim_low hT t ex w b A c p h c1 (by omega) (kind_isS k1 k5) (kind_isS k1 k5) (kind_isS k1 k5) (kind_isS k1 k5) (by rw [kind_isNm k1]; rfl)
    have e2 : ((here (ts.drop p)).k == 2) = false := by simpa using c1
    rw [if_neg (by rw [e2]; simp)]
    by_cases c3 : (here (ts.drop p)).k = 3
    · rw [if_pos (by simpa using c3)]
      exact prim_text hT t ex w b A c p h c3
    rw [if_neg (by simpa using c3)]
    by_cases c4 : (here (ts.drop p)).k = 4
    · rw [if_pos (by simpa using c4)]
      exact prim_blob hT t ex w b A c p h c4
    rw [if_neg (by simpa using c4)]
    by_cases ya : isS wNull (ts.drop p) = true
    · rw [if_pos ya]
      exact prim_null hT t ex w b A c p h c1 c3 c4 ya
    rw [if_neg ya]
    have za : isS wNull (ts.drop p) = false := by simpa using ya
    by_cases yb : isS wTrue (ts.drop p) = true
    · rw [if_pos yb]
      exact prim_true hT t ex w b A c p h c1 c3 c4 za yb
    rw [if_neg yb]
    have zb : isS wTrue (ts.drop p) = false := by simpa using yb
    by_cases ye : isS wFalse (ts.drop p) = true
    · rw [if_pos ye]
      exact prim_false hT t ex w b A c p h c1 c3 c4 za zb ye
    rw [if_neg ye]
    have ze : isS wFalse (ts.drop p) = false := by simpa using ye
    by_cases yf : isS [40] (ts.drop p) = true
    · rw [if_pos yf]
      simp only [List.drop_drop, ← Nat.add_assoc]
      have hr1 := rank_eat hr hp
      rcases hx : ln resB 1 (ts.drop (p + 1)) with q | ⟨a, m⟩
      · exact prim_par_bad hT t ex v H1 q w b A c p h c1 c3 c4 za zb ze yf hr1 hx
      · by_cases hn : isS [41] (ts.drop (p + 1 + m)) = true
        · have hX : (seqX (okX () 1) fun _ _ => seqX (.ok (a, m)) fun x m => seqX (needX [41] (ts.drop (p + 1 + m))) fun _ _ => okX x 0) = okX a (1 + (m + (1 + 0))) := by simp [seqX, okX, needX, hn]
          rw [hX]
          exact prim_par_ok hT t ex v H1 a m w b A c p h c1 c3 c4 za zb ze yf hr1 hx hn
        · have hn' : isS [41] (ts.drop (p + 1 + m)) = false := by simpa using hn
          have hX : (seqX (okX () 1) fun _ _ => seqX (.ok (a, m)) fun x m => seqX (needX [41] (ts.drop (p + 1 + m))) fun _ _ => okX x 0) = badX (1 + (m + 0)) := by simp [seqX, okX, badX, needX, hn']
          rw [hX]
          exact prim_par_no hT t ex v H1 a m w b A c p h c1 c3 c4 za zb ze yf hr1 hx hn'
    rw [if_neg yf]
    have zf : isS [40] (ts.drop p) = false := by simpa using yf
    unfold nmX
    simp only [List.drop_drop, ← Nat.add_assoc]
    by_cases hn : isNm resB (ts.drop p) = true
    · have hX0 : nameX resB (ts.drop p) = okX (here (ts.drop p)).s 1 := by unfold nameX; rw [if_pos hn]
      rw [hX0]
      obtain ⟨nm, hnm⟩ : ∃ nm, (here (ts.drop p)).s = nm := ⟨_, rfl⟩
      rw [hnm, seqX_unit]
      have hp1 : p + 1 < ts.length := hT.next hp fun hk => by unfold isNm at hn; rw [hk] at hn; simp at hn
      by_cases yd : isS [46] (ts.drop (p + 1)) = true
      · by_cases hn2 : isNm resB (ts.drop (p + 1 + 1)) = true
        · have hX : (seqX (okX () 1) fun _ _ => (fun n (_ : Nat) => if isS [46] (ts.drop (p + 1)) = true then seqX (okX () 1) fun _ _ => seqX (nameX resB (ts.drop (p + 2))) fun c _ => okX (col n c) 0
            else if isS [40] (ts.drop (p + 1)) = true then seqX (okX () 1) fun _ _ => if isS [41] (ts.drop (p + 2)) = true then okX (call1 n []) 1 else if (n == wCount && isS [42] (ts.drop (p + 2))) = true then seqX (okX () 1) fun _ _ => seqX (needX [41] (ts.drop (p + 3))) fun _ _ => okX (call1 n [star]) 0
            else seqX (ls resB (ts.drop (p + 2))) fun xs m => seqX (needX [41] (ts.drop (p + 2 + m))) fun _ _ => okX (call1 n xs) 0 else okX (col [] n) 0) nm 1) = okX (col nm (here (ts.drop (p + 1 + 1))).s) (1 + (1 + (1 + 0))) := by
            simp [seqX, okX, nameX, yd, hn2]
          rw [hX]
          exact prim_dot hT t ex w b A c p h c1 c3 c4 za zb ze zf nm hnm hn yd _ rfl hn2
        · have hn2' : isNm resB (ts.drop (p + 1 + 1)) = false := by simpa using hn2
          have e : nameX resB (ts.drop (p + 2)) = badX 0 := by unfold nameX; rw [show p + 2 = p + 1 + 1 from rfl, hn2']; rfl
          simp only [yd, if_true, e]
          exact prim_dot_no hT t ex w b A c p h c1 c3 c4 za zb ze zf nm hnm hn yd (by rw [hn2']; rfl)
      · have zd : isS [46] (ts.drop (p + 1)) = false := by simpa using yd
        simp only [zd, Bool.false_eq_true, if_false]
        by_cases yo : isS [40] (ts.drop (p + 1)) = true
        · have hp2 : p + 1 + 1 < ts.length := hT.next hp1 (isS_kind yo)
          simp only [yo, if_true]
          by_cases yc : isS [41] (ts.drop (p + 1 + 1)) = true
          · simp only [show p + 2 = p + 1 + 1 from rfl, yc, if_true]
            exact prim_call0 hT t ex w b A c p h c1 c3 c4 za zb ze zf nm hnm hn zd yo yc
          · have zc : isS [41] (ts.drop (p + 1 + 1)) = false := by simpa using yc
            simp only [show p + 2 = p + 1 + 1 from rfl, show p + 3 = p + 1 + 1 + 1 from rfl, zc, Bool.false_eq_true, if_false]
            by_cases hc : nm = wCount
            · by_cases ys : isS [42] (ts.drop (p + 1 + 1)) = true
              · have e : (nm == wCount && isS [42] (ts.drop (p + 1 + 1))) = true := by rw [ys, hc]; rfl
                simp only [e, if_true]
                by_cases hc2 : isS [41] (ts.drop (p + 1 + 1 + 1)) = true
                · have e2 : needX [41] (ts.drop (p + 1 + 1 + 1)) = okX () 1 := by unfold needX; rw [if_pos hc2]
                  rw [e2]
                  exact prim_star hT t ex w b A c p h c1 c3 c4 za zb ze zf nm hnm hn hc zd yo zc ys hc2
                · have hc2' : isS [41] (ts.drop (p + 1 + 1 + 1)) = false := by simpa using hc2
                  have e2 : needX [41] (ts.drop (p + 1 + 1 + 1)) = badX 0 := by unfold needX; rw [if_neg hc2]
                  rw [e2]
                  exact prim_star_no hT t ex w b A c p h c1 c3 c4 za zb ze zf nm hnm hn hc zd yo zc ys hc2'
              · have zs : isS [42] (ts.drop (p + 1 + 1)) = false := by simpa using ys
                have e : (nm == wCount && isS [42] (ts.drop (p + 1 + 1))) = false := by rw [zs]; simp
                simp only [e, Bool.false_eq_true, if_false]
                have hr2 : rank ts (p + 1 + 1) false ≤ v := by unfold rank at *; simp only [Bool.false_eq_true, if_false] at *; omega
                rcases hx : ls resB (ts.drop (p + 1 + 1)) with q | ⟨xs, m⟩
                · exact prim_call_bad_c hT t ex v HL q w b A c p h c1 c3 c4 za zb ze zf nm hnm hn hc zd yo zc zs hr2 hx
                · by_cases hcl : isS [41] (ts.drop (p + 1 + 1 + m)) = true
                  · have e2 : needX [41] (ts.drop (p + 1 + 1 + m)) = okX () 1 := by unfold needX; rw [if_pos hcl]
                    have hX : (seqX (okX nm 1) fun n _ => seqX (okX () 1) fun _ _ => seqX (.ok (xs, m)) fun xs m => seqX (needX [41] (ts.drop (p + 1 + 1 + m))) fun _ _ => okX (call1 n xs) 0) = okX (call1 nm xs) (1 + (1 + (m + (1 + 0)))) := by simp [seqX, okX, e2]
                    refine (prim_call_ok_c hT t ex v HL xs m w b A c p h c1 c3 c4 za zb ze zf nm hnm hn hc zd yo zc zs hr2 hx hcl).mono fun r w' hh => ?_
                    rw [← hX] at hh; exact hh
                  · have hcl' : isS [41] (ts.drop (p + 1 + 1 + m)) = false := by simpa using hcl
                    have e2 : needX [41] (ts.drop (p + 1 + 1 + m)) = badX 0 := by unfold needX; rw [if_neg hcl]
                    have hX : (seqX (okX nm 1) fun n _ => seqX (okX () 1) fun _ _ => seqX (.ok (xs, m)) fun xs m => seqX (needX [41] (ts.drop (p + 1 + 1 + m))) fun _ _ => okX (call1 n xs) 0) = badX (1 + (1 + (m + 0))) := by simp [seqX, okX, badX, e2]
                    refine (prim_call_no_c hT t ex v HL xs m w b A c p h c1 c3 c4 za zb ze zf nm hnm hn hc zd yo zc zs hr2 hx hcl').mono fun r w' hh => ?_
                    rw [← hX] at hh; exact hh
            · have hcf : (nm == wCount) = false := by simpa using hc
              have e : (nm == wCount && isS [42] (ts.drop (p + 1 + 1))) = false := by rw [hcf]; rfl
              simp only [e, Bool.false_eq_true, if_false]
              have hr2 : rank ts (p + 1 + 1) false ≤ v := by unfold rank at *; simp only [Bool.false_eq_true, if_false] at *; omega
              rcases hx : ls resB (ts.drop (p + 1 + 1)) with q | ⟨xs, m⟩
              · exact prim_call_bad hT t ex v HL q w b A c p h c1 c3 c4 za zb ze zf nm hnm hn hc zd yo zc hr2 hx
              · by_cases hcl : isS [41] (ts.drop (p + 1 + 1 + m)) = true
                · have e2 : needX [41] (ts.drop (p + 1 + 1 + m)) = okX () 1 := by unfold needX; rw [if_pos hcl]
                  have hX : (seqX (okX nm 1) fun n _ => seqX (okX () 1) fun _ _ => seqX (.ok (xs, m)) fun xs m => seqX (needX [41] (ts.drop (p + 1 + 1 + m))) fun _ _ => okX (call1 n xs) 0) = okX (call1 nm xs) (1 + (1 + (m + (1 + 0)))) := by simp [seqX, okX, e2]
                  refine (prim_call_ok hT t ex v HL xs m w b A c p h c1 c3 c4 za zb ze zf nm hnm hn hc zd yo zc hr2 hx hcl).mono fun r w' hh => ?_
                  rw [← hX] at hh; exact hh
                · have hcl' : isS [41] (ts.drop (p + 1 + 1 + m)) = false := by simpa using hcl
                  have e2 : needX [41] (ts.drop (p + 1 + 1 + m)) = badX 0 := by unfold needX; rw [if_neg hcl]
                  have hX : (seqX (okX nm 1) fun n _ => seqX (okX () 1) fun _ _ => seqX (.ok (xs, m)) fun xs m => seqX (needX [41] (ts.drop (p + 1 + 1 + m))) fun _ _ => okX (call1 n xs) 0) = badX (1 + (1 + (m + 0))) := by simp [seqX, okX, badX, e2]
                  refine (prim_call_no hT t ex v HL xs m w b A c p h c1 c3 c4 za zb ze zf nm hnm hn hc zd yo zc hr2 hx hcl').mono fun r w' hh => ?_
                  rw [← hX] at hh; exact hh
        · have zo : isS [40] (ts.drop (p + 1)) = false := by simpa using yo
          simp only [zo, Bool.false_eq_true, if_false]
          exact prim_col hT t ex w b A c p h c1 c3 c4 za zb ze zf nm hnm hn zd zo
    · have hn' : isNm resB (ts.drop p) = false := by simpa using hn
      have hX0 : nameX resB (ts.drop p) = badX 0 := by unfold nameX; rw [hn']; rfl
      rw [hX0]
      exact prim_none hT t ex w b A c p h c1 c3 c4 za zb ze zf (by rw [hn']; rfl)
end Go.Proofs.YthohfegnphocbaaGreatDoor
namespace Go.Proofs.YthohfegnphocbaaGreatDoor
open Go.RowKit
theorem list_got1 {w : World} {S : Nat → Prop} {B : Nat} {e : E} {d : Bool} {s0 s3 s4 s5 : ByteArray} {i1 i2 : Int} {A9 : Option Addr} {n9 c9 : Nat} (G : Got w S e d (.agg #[.string s0, .int .i64 i1, .int .i64 i2, .string s3, .string s4, .string s5, .slice A9 n9 c9])) (hB : B ≤ w.heap.size) (hS : ∀ k, S k → B ≤ k) :
    ∃ W : World, W = w.alloc (.cells #[.string s0, .int .i64 i1, .int .i64 i2, .string s3, .string s4, .string s5, .slice A9 n9 c9] 27) ∧ Below w.heap.size w W ∧ LGot W (fun k => B ≤ k) [e] d (.slice (some ⟨w.heap.size, 0, none⟩) 1 1) := by
  obtain ⟨r, hx, hs, hr⟩ := G.row
  refine ⟨_, rfl, (Below.refl _ _).alloc (Nat.le_refl _) _, ?_⟩
  rw [Value.agg.inj hx]
  have := ownL_one (w := w) (B := B) (S := fun k => B ≤ k) (e := e) (d := d) r (hs.keep (fun k hk _ => ⟨hS k hk, rfl⟩) (Nat.le_refl _)) hr hB
  exact this.got (fun k hk => hk)
set_option maxRecDepth 100000 in
set_option maxHeartbeats 8000000 in
theorem minus_no {ts : List T} (hT : Toks ts) (t : TypeId) (ex : List Value) (v : Nat) (H9 : LineH ts t ex v 9) (w : World) (b : Nat) (A : Option Addr) (c p : Nat) (d : Bool) (h : RR w b ts A c p d t ex) (z : isD d ⟨#[45]⟩ (ts.drop p) = false) (hr : rank ts p d ≤ v) :
    Calls Tryz.prog 71 #[.pointer (some ⟨b, 0, none⟩)] w (Rq ts b A c p t ex w (fun k => w.heap.size ≤ k) (xd d (ln resB 9 (ts.drop p)))) := by
  have HT := Lib.hid hT
  obtain ⟨W1, hW1, I1⟩ := Inv.start h
  have HW1 := Lib.hid hW1
  have HL := Lib.hid (fun w (R : RR w b ts A c p d t ex) => H9 p d w b A c R hr)
  generalize xd d (ln resB 9 (ts.drop p)) = x at *
  clear hW1 h hT H9 hr
  go_enter Tryz.func71, Tryz.ntmps71
  go_wp2_with (rw [← HW1.out])
  refine (rEatF HT.out ⟨#[45]⟩ W1 b A c p t ex d I1.out.R z).mono ?_
  rintro r w3 ⟨rfl, R3, b3⟩
  have I3 := Lib.hid (I1.out.but b3 R3)
  have H3 := Lib.hid (HL.out w3 R3)
  have hz3 := I3.out.lt2
  clear b3 R3 I1 HL
  go_wp2_with fail
  refine H3.out.mono ?_
  rintro r w4 ⟨⟨y, rfl, G4, R4⟩, b4⟩
  have I4 := Lib.hid (I3.out.but b4 R4)
  obtain ⟨s0, i1, i2, s3, s4, s5, A9, n9, c9, rfl⟩ := G4.agg
  have G5 := G4.wide (S' := fun k => w.heap.size < k) (fun k hk _ => by omega)
  clear b4 R4 G4 H3 I3 z
  obtain ⟨W9, hW9, q9, HR9, HG9, HB9⟩ := I4.out.put G5
  have HW9 := Lib.hid hW9
  obtain ⟨x0, x1, x2, x3, x4, x5, x6⟩ := I4.out.q.cells
  obtain ⟨g0, g1, g2, g3, g4, g5, g6⟩ := I4.out.q.free
  obtain ⟨l0, l1, l2, l3, l4, l5, l6⟩ := q9.cells
  clear hW9 q9 G5
  go_wp2_with (rw [← HW9.out])
  exact bodyPost_ret (v := .agg #[.string s0, .int .i64 i1, .int .i64 i2, .string s3, .string s4, .string s5, .slice A9 n9 c9]) (by simp [results, Tryz.results71, go_sem, l0, l1, l2, l3, l4, l5, l6]) rfl ⟨⟨_, rfl, HG9.out, HR9.out⟩, HB9.out⟩
set_option maxRecDepth 100000 in
set_option maxHeartbeats 8000000 in
theorem minus_num {ts : List T} (hT : Toks ts) (t : TypeId) (ex : List Value) (w : World) (b : Nat) (A : Option Addr) (c p p1 : Nat) (hpp : p1 = p + 1) (h : RR w b ts A c p false t ex) (y : isS (⟨#[45]⟩ : ByteArray).data.toList (ts.drop p) = true) (hk : (here (ts.drop p1)).k = 2) :
    Calls Tryz.prog 71 #[.pointer (some ⟨b, 0, none⟩)] w (Rq ts b A c p t ex w (fun k => w.heap.size ≤ k) (okX (lit ⟨2, negI (here (ts.drop p1)).i, []⟩) 2)) := by
  have HT := Lib.hid hT
  have hlen := hT.len
  have hp1 : p1 < ts.length := by rw [hpp]; exact hT.next h.hp (isS_kind y)
  have hp2 : p1 + 1 < ts.length := hT.next hp1 (by rw [hk]; decide)
  obtain ⟨W1, hW1, I1⟩ := Inv.start h
  have HW1 := Lib.hid hW1
  have HE := Lib.hid (fun W (R : RR W b ts A c p false t ex) => rEatT hT ⟨#[45]⟩ W b A c p t ex R y)
  rw [← hpp] at HE
  have HH0 := fun (W : World) (R : RR W b ts A c p1 false t ex) => rHere hT.len W b A c p1 false t ex R
  have hneg0 := neg_wrap ((hT.here hp1).2.2 hk)
  rw [Go.IntWalk.i64_left] at hneg0
  simp only [here_drop hp1] at hk HH0 hneg0 ⊢
  have hneg := Lib.hid hneg0
  clear hneg0
  have HH := Lib.hid HH0
  clear HH0
  generalize ts[p1] = u at *
  obtain ⟨uk, us, ui, up⟩ := u
  simp only [T.val] at *
  subst hk
  generalize negI ui = ni at *
  have hbw := h.lt
  have HP := Lib.hid hpp
  clear hW1 h hT y hpp
  go_enter Tryz.func71, Tryz.ntmps71
  go_wp2_with (rw [← HW1.out])
  refine (HE.out W1 I1.out.R).mono ?_
  rintro r w3 ⟨rfl, R3, b3⟩
  have I3 := Lib.hid (I1.out.but b3 R3)
  have hz3 := I3.out.lt2
  have H3 := Lib.hid (HH.out w3 R3)
  clear b3 R3 I1 HE HH
  go_wp2_with fail
  refine H3.out.mono ?_
  rintro r w2 ⟨rfl, b2⟩
  obtain ⟨W2, hW2, T2, m2⟩ := tbox w2 2 ui (str us) up
  have I2 := Lib.hid ((I3.out.later b2).later m2)
  have HW2 := Lib.hid hW2
  have hw2 : w.heap.size < w2.heap.size := Nat.lt_of_lt_of_le hz3 b2.size
  have k0 : W2.cell? ⟨w2.heap.size, 0, none⟩ = some (.int .i64 2) := by rw [Lib.cell_of_heap T2.out]; rfl
  have k2 : W2.cell? ⟨w2.heap.size, 2, none⟩ = some (.int .i64 ui) := by rw [Lib.cell_of_heap T2.out]; rfl
  obtain ⟨c0, c1, c2, f1, f2⟩ := I2.out.R.cells
  obtain ⟨W3, hW3⟩ : ∃ W3, W3 = W2.setCell ⟨b, 1, none⟩ (.int .i64 ((p1 : Int) + 1)) := ⟨_, rfl⟩
  have I5 : Hid (Inv w W3 b ts A c (p1 + 1) false t ex) := Lib.hid (by rw [hW3]; exact I2.out.at hp2)
  have T3 : W3.heap[w2.heap.size]? = some (.cells #[.int .i64 2, .string (str us), .int .i64 ui, .int .i64 up] 51 (0, 0)) := by rw [hW3, Below.heap_setCell _ _ _ _ (show w2.heap.size ≠ b by omega)]; exact T2.out
  have j2 : W3.cell? ⟨w2.heap.size, 2, none⟩ = some (.int .i64 ui) := by rw [Lib.cell_of_heap T3]; rfl
  have HW3 := Lib.hid hW3
  clear hW3 T3 hW2 m2 b2 I3 H3 HW1
  go_wp2_with (first | (rw [← HW3.out]) | (rw [← HW2.out]))
  rw [hneg.out]
  refine (rInt1 _ _).mono ?_
  rintro r w4 ⟨rfl, b4⟩
  go_wp2_with fail
  refine (rLit _ _ _ _).mono ?_
  rintro r w5 ⟨rfl, b5⟩
  have I6 := Lib.hid ((I5.out.later b4).later b5)
  clear b4 b5 I5
  obtain ⟨W9, hW9, q9, HR9, HG9, HB9⟩ := I6.out.put (show Got w5 (fun k => w.heap.size < k) (lit ⟨2, ni, []⟩) false (.agg #[.string ⟨#[108, 105, 116]⟩, .int .i64 2, .int .i64 ni, .string ⟨#[]⟩, .string ⟨#[]⟩, .string ⟨#[]⟩, .slice none 0 0]) from rgot_lit false wLit ⟨2, ni, []⟩ [] [])
  have HW9 := Lib.hid hW9
  obtain ⟨x0, x1, x2, x3, x4, x5, x6⟩ := I6.out.q.cells
  obtain ⟨g0, g1, g2, g3, g4, g5, g6⟩ := I6.out.q.free
  obtain ⟨l0, l1, l2, l3, l4, l5, l6⟩ := q9.cells
  clear hW9 q9
  go_wp2_with (rw [← HW9.out])
  have e9 := HP.out
  exact bodyPost_ret (v := .agg #[.string ⟨#[108, 105, 116]⟩, .int .i64 2, .int .i64 ni, .string ⟨#[]⟩, .string ⟨#[]⟩, .string ⟨#[]⟩, .slice none 0 0]) (by simp [results, Tryz.results71, go_sem, l0, l1, l2, l3, l4, l5, l6]) rfl ⟨⟨_, rfl, HG9.out, HR9.out.eqp (by show _ = p + 2; omega)⟩, HB9.out⟩
theorem negX_V {w : World} {S : Nat → Prop} {x : X E} {y : Value} (h : Got w S (op1 wNeg [endV x]) (endD x) y) : Got w S (endV (negX x)) (endD (negX x)) y := by
  rcases x with q | ⟨a, m⟩
  · exact h.bad _
  · exact h
theorem negX_P {w : World} {b : Nat} {ts : List T} {A : Option Addr} {c p p1 : Nat} {t : TypeId} {ex : List Value} {x : X E} (hpp : p1 = p + 1) (h : RR w b ts A c (endP p1 x) (endD x) t ex) : RR w b ts A c (endP p (negX x)) (endD (negX x)) t ex := by
  rcases x with q | ⟨a, m⟩
  · exact h.eqp (by show p1 + q = p + (1 + q); omega)
  · exact h.eqp (by show p1 + m = p + (1 + m); omega)
set_option maxRecDepth 100000 in
set_option maxHeartbeats 8000000 in
theorem minus_more {ts : List T} (hT : Toks ts) (t : TypeId) (ex : List Value) (v : Nat) (H8 : LineH ts t ex v 8) (w : World) (b : Nat) (A : Option Addr) (c p p1 : Nat) (hpp : p1 = p + 1) (h : RR w b ts A c p false t ex) (y : isS (⟨#[45]⟩ : ByteArray).data.toList (ts.drop p) = true) (hk : ¬ (here (ts.drop p1)).k = 2) (hr : rank ts p1 false ≤ v) :
    Calls Tryz.prog 71 #[.pointer (some ⟨b, 0, none⟩)] w (Rq ts b A c p t ex w (fun k => w.heap.size ≤ k) (negX (ln resB 8 (ts.drop p1)))) := by
  have HT := Lib.hid hT
  have hlen := hT.len
  have hp1 : p1 < ts.length := by rw [hpp]; exact hT.next h.hp (isS_kind y)
  obtain ⟨W1, hW1, I1⟩ := Inv.start h
  have HW1 := Lib.hid hW1
  have HE := Lib.hid (fun W (R : RR W b ts A c p false t ex) => rEatT hT ⟨#[45]⟩ W b A c p t ex R y)
  rw [← hpp] at HE
  have HL := Lib.hid (fun w (R : RR w b ts A c p1 false t ex) => H8 p1 false w b A c R hr)
  simp only [xd_f] at HL
  generalize ln resB 8 (ts.drop p1) = x at *
  have HH := Lib.hid (fun (W : World) (R : RR W b ts A c p1 false t ex) => rHere hT.len W b A c p1 false t ex R)
  generalize here (ts.drop p1) = u at *
  obtain ⟨uk, us, ui, up⟩ := u
  simp only [T.val] at *
  have hkf : (uk == 2) = false := by simpa using hk
  have hbw := h.lt
  have HP := Lib.hid hpp
  clear hW1 h hT y hpp hk H8 hr
  go_enter Tryz.func71, Tryz.ntmps71
  go_wp2_with (rw [← HW1.out])
  refine (HE.out W1 I1.out.R).mono ?_
  rintro r w3 ⟨rfl, R3, b3⟩
  have I3 := Lib.hid (I1.out.but b3 R3)
  have hz3 := I3.out.lt2
  have H3 := Lib.hid (HH.out w3 R3)
  clear b3 R3 I1 HE HH
  go_wp2_with fail
  refine H3.out.mono ?_
  rintro r w2 ⟨rfl, b2⟩
  obtain ⟨W2, hW2, T2, m2⟩ := tbox w2 uk ui (str us) up
  have I2 := Lib.hid ((I3.out.later b2).later m2)
  have HW2 := Lib.hid hW2
  have hw2 : w.heap.size < W2.heap.size := I2.out.lt2
  have k0 : W2.cell? ⟨w2.heap.size, 0, none⟩ = some (.int .i64 uk) := by rw [Lib.cell_of_heap T2.out]; rfl
  have H4 := Lib.hid (HL.out W2 I2.out.R)
  clear hW2 m2 b2 I3 H3 HW1 T2 HL
  go_wp2_with (rw [← HW2.out])
  refine H4.out.mono ?_
  rintro r w4 ⟨⟨y, rfl, G4, R4⟩, b4⟩
  have I4 := Lib.hid (I2.out.but b4 R4)
  obtain ⟨s0, i1, i2, s3, s4, s5, A9, n9, c9, rfl⟩ := G4.agg
  have hz4 := I4.out.lt2
  obtain ⟨WB, hWB, qB, zB, mB⟩ := box7 w4 (.string s0) (.int .i64 i1) (.int .i64 i2) (.string s3) (.string s4) (.string s5) (.slice A9 n9 c9)
  have IB := Lib.hid (I4.out.later mB)
  obtain ⟨WC, hWC, mC, L5⟩ := list_got1 (B := w.heap.size + 1) (G4.later mB) (by have := mB.size; omega) (fun k hk => by omega)
  have IC := Lib.hid (IB.out.later mC)
  have LC := Lib.hid L5
  have HWB := Lib.hid hWB
  have HWC := Lib.hid hWC
  obtain ⟨v0, v1, v2, v3, v4, v5, v6⟩ := qB.cells
  clear hWB hWC qB zB mB mC L5 G4 R4 b4 H4 I2 I4 IB
  go_wp2_with (first | (rw [← HWB.out]) | (rw [← HWC.out]))
  refine (rOp1 _ _ _ _ _).mono ?_
  rintro r w5 ⟨rfl, b5⟩
  have I6 := Lib.hid (IC.out.later b5)
  have G5 : Got w5 (fun k => w.heap.size < k) (endV (negX x)) (endD (negX x)) (.agg #[.string ⟨#[110, 101, 103]⟩, .int .i64 0, .int .i64 0, .string ⟨#[]⟩, .string ⟨#[]⟩, .string ⟨#[]⟩, .slice (some ⟨WB.heap.size, 0, none⟩) 1 1]) := negX_V ((LC.out.later b5).whole wNeg [])
  have hnd : endD (negX x) = endD x := by rcases x with q | ⟨a, m⟩ <;> rfl
  rw [hnd] at G5
  clear b5 LC IC
  obtain ⟨W9, hW9, q9, HR9, HG9, HB9⟩ := I6.out.put G5
  have HW9 := Lib.hid hW9
  obtain ⟨x0, x1, x2, x3, x4, x5, x6⟩ := I6.out.q.cells
  obtain ⟨g0, g1, g2, g3, g4, g5, g6⟩ := I6.out.q.free
  obtain ⟨l0, l1, l2, l3, l4, l5, l6⟩ := q9.cells
  have HGX : Hid (Got W9 (fun k => w.heap.size ≤ k) (endV (negX x)) (endD (negX x)) (.agg #[.string ⟨#[110, 101, 103]⟩, .int .i64 0, .int .i64 0, .string ⟨#[]⟩, .string ⟨#[]⟩, .string ⟨#[]⟩, .slice (some ⟨WB.heap.size, 0, none⟩) 1 1])) := Lib.hid (by rw [hnd]; exact HG9.out)
  have HRX := Lib.hid (negX_P HP.out HR9.out)
  clear hW9 q9 G5 hnd HG9 HR9
  go_wp2_with (rw [← HW9.out])
  exact bodyPost_ret (v := .agg #[.string ⟨#[110, 101, 103]⟩, .int .i64 0, .int .i64 0, .string ⟨#[]⟩, .string ⟨#[]⟩, .string ⟨#[]⟩, .slice (some ⟨WB.heap.size, 0, none⟩) 1 1]) (by simp [results, Tryz.results71, go_sem, l0, l1, l2, l3, l4, l5, l6]) rfl ⟨⟨_, rfl, HGX.out, HRX.out⟩, HB9.out⟩
theorem rMinus {ts : List T} (hT : Toks ts) (t : TypeId) (ex : List Value) (v : Nat) (H8 : LineH ts t ex v 8) (H9 : LineH ts t ex (v + 1) 9) (p : Nat) (d : Bool) (w : World) (b : Nat) (A : Option Addr) (c : Nat) (h : RR w b ts A c p d t ex) (hr : rank ts p d ≤ v + 1) :
    Calls Tryz.prog 71 #[.pointer (some ⟨b, 0, none⟩)] w (Rq ts b A c p t ex w (fun k => w.heap.size ≤ k) (xd d (ln resB 8 (ts.drop p)))) := by
  have hp := h.hp
  cases d with
  | true =>
    have := minus_no hT t ex (v + 1) H9 w b A c p true h rfl hr
    rw [xd_t] at this ⊢
    exact this
  | false =>
    rw [xd_f, ln_8]
    cases hc : isS [45] (ts.drop p)
    · simp only [Bool.false_eq_true, if_false]
      have := minus_no hT t ex (v + 1) H9 w b A c p false h hc hr
      rw [xd_f, ln_9] at this
      exact this
    · simp only [if_true, List.drop_drop]
      by_cases h2 : (here (ts.drop (p + 1))).k = 2
      · have e2 : ((here (ts.drop (p + 1))).k == 2) = true := by simpa using h2
        simp only [e2, if_true]
        exact minus_num hT t ex w b A c p (p + 1) rfl h hc h2
      · have e2 : ((here (ts.drop (p + 1))).k == 2) = false := by simpa using h2
        simp only [e2, Bool.false_eq_true, if_false]
        have := minus_more hT t ex v H8 w b A c p (p + 1) rfl h hc h2 (rank_eat hr hp)
        rw [← negX_eq] at this
        exact this
end Go.Proofs.YthohfegnphocbaaGreatDoor
