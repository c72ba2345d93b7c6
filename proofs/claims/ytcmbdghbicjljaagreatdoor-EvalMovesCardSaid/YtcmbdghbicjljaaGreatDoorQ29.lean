/- Contract of eval's Fold, of expressions that are bound. Conditions: what is reckoned on the way is not too great; the library's one variable is there. -/
import Derived.Test.YtcmbdghbicjljaaGreatDoorQ28
import Derived.Test.YtcmbdghbicjljaaGreatDoorQ26
import Derived.Test.YtcmbdghbicjljaaGreatDoorQ23
import Derived.Test.YtcmbdghbicjljaaGreatDoorQ30
set_option linter.unusedSimpArgs false
set_option linter.unusedVariables false
namespace Go.Proofs.YtcmbdghbicjljaaGreatDoor
open Go.RowKit
set_option maxRecDepth 100000 in
set_option maxHeartbeats 4000000 in
theorem fold_any (o : List UInt8) (v : Vl) (t n : List UInt8) (l : List E) (S : Nat → Prop) (A : Option Addr) (c : Nat) (w : World) (hsub : Sub S w (.mk o v t n l) A c) (hsz : (E.mk o v t n l).size ≤ 100000) (hfit : (E.mk o v t n l).fit deedP []) (hE : SC.Env w) (hsn : (E.mk o v t n l).sn = true) (hck : chkW 9223372036854775807 (.mk o v t n l) = 0) :
    Calls Tryz.prog 10 #[eVal o v t n (.slice A l.length c)] w (GivesE w ((E.mk o v t n l).fd deedP)) := by
  have HCK := Lib.hid (fun W' (hb : Below w.heap.size w W') => check_any 9223372036854775807 (.mk o v t n l) _ S W' ⟨A, c, rfl, sub_later hsub hb⟩ hsz hsn)
  have HFD := Lib.hid (fun W' (hb : Below w.heap.size w W') => folded_any (.mk o v t n l) _ S W' ⟨A, c, rfl, sub_later hsub hb⟩ hsz hfit (hE.later hb))
  rw [hck] at HCK
  simp only [E.op, E.v, E.tb, E.nm, E.l] at HCK HFD
  unfold GivesE at *
  generalize (E.mk o v t n l).fd deedP = fe at *
  simp only [eVal] at HCK HFD ⊢
  generalize str o = bo at *
  generalize str t = bt at *
  generalize str n = bn at *
  generalize str v.s = bs at *
  generalize v.k = vk at *
  generalize v.i = vi at *
  have hb0 := (Below.refl w.heap.size w).alloc (Nat.le_refl _) (.cells #[.string bo, .int .i64 vk, .int .i64 vi, .string bs, .string bt, .string bn, .slice A l.length c] 26)
  have q0 := B7.made w (.string bo) (.int .i64 vk) (.int .i64 vi) (.string bs) (.string bt) (.string bn) (.slice A l.length c)
  have hb1' := (Below.refl (w.alloc (.cells #[.string bo, .int .i64 vk, .int .i64 vi, .string bs, .string bt, .string bn, .slice A l.length c] 26)).heap.size (w.alloc (.cells #[.string bo, .int .i64 vk, .int .i64 vi, .string bs, .string bt, .string bn, .slice A l.length c] 26))).alloc (Nat.le_refl _) (.cells #[.string ⟨#[]⟩, .int .i64 0, .int .i64 0, .string ⟨#[]⟩, .string ⟨#[]⟩, .string ⟨#[]⟩, .slice none 0 0] 26)
  have q1 := q0.later hb1'
  have p1 := B7.made (w.alloc (.cells #[.string bo, .int .i64 vk, .int .i64 vi, .string bs, .string bt, .string bn, .slice A l.length c] 26)) (.string ⟨#[]⟩) (.int .i64 0) (.int .i64 0) (.string ⟨#[]⟩) (.string ⟨#[]⟩) (.string ⟨#[]⟩) (.slice none 0 0)
  have zp : (w.alloc (.cells #[.string bo, .int .i64 vk, .int .i64 vi, .string bs, .string bt, .string bn, .slice A l.length c] 26)).heap.size = w.heap.size + 1 := by simp
  rw [zp] at p1
  have hb1 := bthen hb0 hb1'
  have z1 : ((w.alloc (.cells #[.string bo, .int .i64 vk, .int .i64 vi, .string bs, .string bt, .string bn, .slice A l.length c] 26)).alloc (.cells #[.string ⟨#[]⟩, .int .i64 0, .int .i64 0, .string ⟨#[]⟩, .string ⟨#[]⟩, .string ⟨#[]⟩, .slice none 0 0] 26)).heap.size = w.heap.size + 1 + 1 := by simp
  obtain ⟨W1, hW1⟩ : ∃ W1 : World, W1 = ((w.alloc (.cells #[.string bo, .int .i64 vk, .int .i64 vi, .string bs, .string bt, .string bn, .slice A l.length c] 26)).alloc (.cells #[.string ⟨#[]⟩, .int .i64 0, .int .i64 0, .string ⟨#[]⟩, .string ⟨#[]⟩, .string ⟨#[]⟩, .slice none 0 0] 26)) := ⟨_, rfl⟩
  rw [← hW1] at q1 p1 hb1 z1
  have HW1 := Lib.hid hW1
  have Q1 := Lib.hid q1
  have P1 := Lib.hid p1
  have B1 := Lib.hid hb1
  have Z1 := Lib.hid z1
  obtain ⟨x0, x1, x2, x3, x4, x5, x6⟩ := q1.cells
  clear hb0 q0 hb1' q1 p1 hb1 z1 zp hW1
  have HC1 := Lib.hid (HCK.out W1 B1.out)
  clear hsub hsz hfit hE hsn hck HCK
  go_enter Tryz.func10, Tryz.ntmps10
  go_wp2_with (rw [← HW1.out])
  refine (HC1.out).mono ?_
  rintro e w2 ⟨rfl, b2⟩
  have q2 := Q1.out.later b2
  have P2 := Lib.hid (P1.out.later b2)
  have B2 := Lib.hid (bthen B1.out b2)
  have Z2 : Hid (W1.heap.size ≤ w2.heap.size) := b2.size
  have HF2 := Lib.hid (HFD.out w2 B2.out)
  clear b2 x0 x1 x2 x3 x4 x5 x6 HC1 HFD
  obtain ⟨x0, x1, x2, x3, x4, x5, x6⟩ := q2.cells
  clear q2
  go_wp2_with fail
  refine (HF2.out).mono ?_
  rintro e w6 ⟨A6, c6, rfl, hs6, b6⟩
  have P6 := Lib.hid (P2.out.later b6)
  have B6 := Lib.hid (bthen B2.out b6)
  have HS6 := Lib.hid (hs6.keep (S' := fun b => W1.heap.size ≤ b) (fun b hb _ => ⟨Nat.le_trans Z2.out hb, rfl⟩) (Nat.le_refl _))
  clear hs6 b6 x0 x1 x2 x3 x4 x5 x6
  obtain ⟨y0, y1, y2, y3, y4, y5, y6⟩ := P6.out.cells
  obtain ⟨f0, f1, f2, f3, f4, f5, f6⟩ := P6.out.free
  obtain ⟨W8, hW8, b8, z8, o8, l8⟩ := stored7 P6.out (.string (str fe.op)) (.int .i64 fe.v.k) (.int .i64 fe.v.i) (.string (str fe.v.s)) (.string (str fe.tb)) (.string (str fe.nm)) (.slice A6 fe.l.length c6)
  obtain ⟨k0, k1, k2, k3, k4, k5, k6⟩ := b8.cells
  have HFIN : Hid (Sub (fun b => w.heap.size ≤ b) W8 fe A6 c6 ∧ Below w.heap.size w W8) := ⟨HS6.out.keep (fun b hb _ => ⟨by have h1 : W1.heap.size ≤ b := hb; have h2 := Z1.out; omega, o8 b (by have h1 : W1.heap.size ≤ b := hb; have h2 := Z1.out; omega)⟩) (by rw [z8]; exact Nat.le_refl _), B6.out.trans (l8 w.heap.size (by omega))⟩
  have HW8 := Lib.hid hW8
  clear hW8 b8 z8 o8 l8
  go_wp2_with (rw [← HW8.out])
  exact bodyPost_ret (v := .agg #[.string (str fe.op), .int .i64 fe.v.k, .int .i64 fe.v.i, .string (str fe.v.s), .string (str fe.tb), .string (str fe.nm), .slice A6 fe.l.length c6]) (by simp [results, Tryz.results10, go_sem, k0, k1, k2, k3, k4, k5, k6]) rfl ⟨A6, c6, rfl, HFIN.out⟩
theorem foldE_any (e : E) (x : Value) (S : Nat → Prop) (w : World) (hx : EAt S w e x) (hsz : e.size ≤ 100000) (hfit : e.fit deedP []) (hE : SC.Env w) (hsn : e.sn = true) (hck : chkW 9223372036854775807 e = 0) : Calls Tryz.prog 10 #[x] w (GivesE w (e.fd deedP)) := by
  obtain ⟨A, c, rfl, hs⟩ := hx
  obtain ⟨o, v, t, n, l⟩ := e
  exact fold_any o v t n l S A c w hs hsz hfit hE hsn hck
end Go.Proofs.YtcmbdghbicjljaaGreatDoor
namespace Go.Proofs.YtcmbdghbicjljaaGreatDoor
open Go.RowKit
open Go.Proofs.YtcmbdghbicjljaaGreatDoor.SC (HV VBox zero_box Args)
set_option maxRecDepth 100000 in
set_option maxHeartbeats 2000000 in
theorem num_any (i : Int) (w : World) : Calls Tryz.prog 22 #[.int .i64 i] w fun r w' => r = .returned (.agg #[.string ⟨#[108, 105, 116]⟩, .int .i64 2, .int .i64 i, .string ⟨#[]⟩, .string ⟨#[]⟩, .string ⟨#[]⟩, .slice none 0 0]) ∧ Below w.heap.size w w' := by
  obtain ⟨W1, hW1, p1, hz, hb1⟩ := zero7 w
  have HW1 := Lib.hid hW1
  have P1 := Lib.hid p1
  have B1 := Lib.hid hb1
  clear hW1 p1 hb1 hz
  go_enter Tryz.func22, Tryz.ntmps22
  go_wp2_with (rw [← HW1.out])
  refine (rInt1 i _).mono ?_
  rintro e w2 ⟨rfl, b2⟩
  have P2 := Lib.hid (P1.out.later b2)
  have B2 := Lib.hid (bthen B1.out b2)
  clear b2
  go_wp2_with fail
  refine (rLit 2 i ⟨#[]⟩ _).mono ?_
  rintro e w3 ⟨rfl, b3⟩
  have P3 := P2.out.later b3
  have B3 := Lib.hid (bthen B2.out b3)
  obtain ⟨y0, y1, y2, y3, y4, y5, y6⟩ := P3.cells
  obtain ⟨f0, f1, f2, f3, f4, f5, f6⟩ := P3.free
  obtain ⟨W8, hW8, b8, z8, o8, l8⟩ := stored7 P3 (.string ⟨#[108, 105, 116]⟩) (.int .i64 2) (.int .i64 i) (.string ⟨#[]⟩) (.string ⟨#[]⟩) (.string ⟨#[]⟩) (.slice none 0 0)
  obtain ⟨k0, k1, k2, k3, k4, k5, k6⟩ := b8.cells
  have B8 := Lib.hid (B3.out.trans (l8 w.heap.size (Nat.le_refl _)))
  have HW8 := Lib.hid hW8
  clear b3 P3 b8 z8 o8 l8 hW8
  go_wp2_with (rw [← HW8.out])
  exact bodyPost_ret (v := .agg #[.string ⟨#[108, 105, 116]⟩, .int .i64 2, .int .i64 i, .string ⟨#[]⟩, .string ⟨#[]⟩, .string ⟨#[]⟩, .slice none 0 0]) (by simp [results, Tryz.results22, go_sem, k0, k1, k2, k3, k4, k5, k6]) rfl ⟨rfl, B8.out⟩
set_option maxRecDepth 100000 in
set_option maxHeartbeats 2000000 in
theorem at1_any (i : Int) (w : World) : Calls Tryz.prog 19 #[.int .i64 i] w fun r w' => r = .returned (.agg #[.string ⟨#[97, 116]⟩, .int .i64 2, .int .i64 i, .string ⟨#[]⟩, .string ⟨#[]⟩, .string ⟨#[]⟩, .slice none 0 0]) ∧ Below w.heap.size w w' := by
  obtain ⟨W1, hW1, p1, hz, hb1⟩ := zero7 w
  have HW1 := Lib.hid hW1
  have P1 := Lib.hid p1
  have B1 := Lib.hid hb1
  clear hW1 p1 hb1 hz
  go_enter Tryz.func19, Tryz.ntmps19
  go_wp2_with (rw [← HW1.out])
  refine (rInt1 i _).mono ?_
  rintro e w2 ⟨rfl, b2⟩
  have P3 := P1.out.later b2
  have B3 := Lib.hid (bthen B1.out b2)
  obtain ⟨y0, y1, y2, y3, y4, y5, y6⟩ := P3.cells
  obtain ⟨f0, f1, f2, f3, f4, f5, f6⟩ := P3.free
  obtain ⟨W8, hW8, b8, z8, o8, l8⟩ := stored7 P3 (.string ⟨#[97, 116]⟩) (.int .i64 2) (.int .i64 i) (.string ⟨#[]⟩) (.string ⟨#[]⟩) (.string ⟨#[]⟩) (.slice none 0 0)
  obtain ⟨k0, k1, k2, k3, k4, k5, k6⟩ := b8.cells
  have B8 := Lib.hid (B3.out.trans (l8 w.heap.size (Nat.le_refl _)))
  have HW8 := Lib.hid hW8
  clear b2 P3 b8 z8 o8 l8 hW8
  go_wp2_with (rw [← HW8.out])
  exact bodyPost_ret (v := .agg #[.string ⟨#[97, 116]⟩, .int .i64 2, .int .i64 i, .string ⟨#[]⟩, .string ⟨#[]⟩, .string ⟨#[]⟩, .slice none 0 0]) (by simp [results, Tryz.results19, go_sem, k0, k1, k2, k3, k4, k5, k6]) rfl ⟨rfl, B8.out⟩
end Go.Proofs.YtcmbdghbicjljaaGreatDoor
namespace Go.Proofs.YtcmbdghbicjljaaGreatDoor
open Go.RowKit
open Go.Proofs.YtcmbdghbicjljaaGreatDoor.SC (HV VBox zero_box Args)
theorem two_sub {S : Nat → Prop} {w : World} (e1 e2 : E) (A1 A2 : Option Addr) (c1 c2 : Nat) (h1 : Sub S w e1 A1 c1) (h2 : Sub S w e2 A2 c2) (o : List UInt8) (v : Vl) (t n : List UInt8) :
    Sub (fun _ => True) (w.alloc (.cells #[.string (str e1.op), .int .i64 e1.v.k, .int .i64 e1.v.i, .string (str e1.v.s), .string (str e1.tb), .string (str e1.nm), .slice A1 e1.l.length c1, .string (str e2.op), .int .i64 e2.v.k, .int .i64 e2.v.i, .string (str e2.v.s), .string (str e2.tb), .string (str e2.nm), .slice A2 e2.l.length c2] 26)) (.mk o v t n [e1, e2]) (some ⟨w.heap.size, 0, none⟩) 2 := by
  have hb := bel_allocE (Below.refl w.heap.size w) (.cells #[.string (str e1.op), .int .i64 e1.v.k, .int .i64 e1.v.i, .string (str e1.v.s), .string (str e1.tb), .string (str e1.nm), .slice A1 e1.l.length c1, .string (str e2.op), .int .i64 e2.v.k, .int .i64 e2.v.i, .string (str e2.v.s), .string (str e2.tb), .string (str e2.nm), .slice A2 e2.l.length c2] 26)
  have hh := heap_alloc_new w (.cells #[.string (str e1.op), .int .i64 e1.v.k, .int .i64 e1.v.i, .string (str e1.v.s), .string (str e1.tb), .string (str e1.nm), .slice A1 e1.l.length c1, .string (str e2.op), .int .i64 e2.v.k, .int .i64 e2.v.i, .string (str e2.v.s), .string (str e2.tb), .string (str e2.nm), .slice A2 e2.l.length c2] 26)
  refine ⟨Nat.le_refl _, by unfold maxLen; omega, fun _ => ⟨w.heap.size, 0, rfl, trivial, by simp, ?_⟩⟩
  have s1 := (sub_later h1 hb).keep (S' := fun _ => True) (fun _ _ _ => ⟨trivial, rfl⟩) (Nat.le_refl _)
  have s2 := (sub_later h2 hb).keep (S' := fun _ => True) (fun _ _ _ => ⟨trivial, rfl⟩) (Nat.le_refl _)
  generalize w.alloc _ = W at *
  refine ⟨⟨A1, c1, ?_, s1⟩, ⟨A2, c2, ?_, s2⟩, trivial⟩
  · refine ⟨?_, ?_, ?_, ?_, ?_, ?_, ?_⟩ <;> (rw [Lib.cell_of_heap hh]; rfl)
  · refine ⟨?_, ?_, ?_, ?_, ?_, ?_, ?_⟩ <;> (rw [Lib.cell_of_heap hh]; rfl)
theorem one_sub {S : Nat → Prop} {w : World} (e1 : E) (A1 : Option Addr) (c1 : Nat) (h1 : Sub S w e1 A1 c1) (o : List UInt8) (v : Vl) (t n : List UInt8) :
    Sub (fun _ => True) (w.alloc (.cells #[.string (str e1.op), .int .i64 e1.v.k, .int .i64 e1.v.i, .string (str e1.v.s), .string (str e1.tb), .string (str e1.nm), .slice A1 e1.l.length c1] 26)) (.mk o v t n [e1]) (some ⟨w.heap.size, 0, none⟩) 1 := by
  have hb := bel_allocE (Below.refl w.heap.size w) (.cells #[.string (str e1.op), .int .i64 e1.v.k, .int .i64 e1.v.i, .string (str e1.v.s), .string (str e1.tb), .string (str e1.nm), .slice A1 e1.l.length c1] 26)
  have hh := heap_alloc_new w (.cells #[.string (str e1.op), .int .i64 e1.v.k, .int .i64 e1.v.i, .string (str e1.v.s), .string (str e1.tb), .string (str e1.nm), .slice A1 e1.l.length c1] 26)
  refine ⟨Nat.le_refl _, by unfold maxLen; omega, fun _ => ⟨w.heap.size, 0, rfl, trivial, by simp, ?_⟩⟩
  have s1 := (sub_later h1 hb).keep (S' := fun _ => True) (fun _ _ _ => ⟨trivial, rfl⟩) (Nat.le_refl _)
  generalize w.alloc _ = W at *
  refine ⟨⟨A1, c1, ?_, s1⟩, trivial⟩
  refine ⟨?_, ?_, ?_, ?_, ?_, ?_, ?_⟩ <;> (rw [Lib.cell_of_heap hh]; rfl)
theorem sx_one (w : World) : Sub (fun _ => True) (w.alloc (.cells #[.string ⟨#[97, 116]⟩, .int .i64 2, .int .i64 0, .string ⟨#[]⟩, .string ⟨#[]⟩, .string ⟨#[]⟩, .slice none 0 0, .string ⟨#[108, 105, 116]⟩, .int .i64 2, .int .i64 1, .string ⟨#[]⟩, .string ⟨#[]⟩, .string ⟨#[]⟩, .slice none 0 0] 26)) exOne (some ⟨w.heap.size, 0, none⟩) 2 :=
  two_sub (atE 0) (nmE 1) none none 0 0 (sub_none (fun _ => True) _ _ _ _ _) (sub_none (fun _ => True) _ _ _ _ _) [43] v0 [] []
theorem sx_zero (w : World) : Sub (fun _ => True) (w.alloc (.cells #[.string ⟨#[108, 105, 116]⟩, .int .i64 2, .int .i64 1, .string ⟨#[]⟩, .string ⟨#[]⟩, .string ⟨#[]⟩, .slice none 0 0, .string ⟨#[108, 105, 116]⟩, .int .i64 2, .int .i64 0, .string ⟨#[]⟩, .string ⟨#[]⟩, .string ⟨#[]⟩, .slice none 0 0] 26)) exZero (some ⟨w.heap.size, 0, none⟩) 2 :=
  two_sub (nmE 1) (nmE 0) none none 0 0 (sub_none (fun _ => True) _ _ _ _ _) (sub_none (fun _ => True) _ _ _ _ _) [47] v0 [] []
theorem sx_two (w : World) (g1 : Nat) (h1 : Sub (fun _ => True) w exZero (some ⟨g1, 0, none⟩) 2) : Sub (fun _ => True) (w.alloc (.cells #[.string ⟨#[47]⟩, .int .i64 0, .int .i64 0, .string ⟨#[]⟩, .string ⟨#[]⟩, .string ⟨#[]⟩, .slice (some ⟨g1, 0, none⟩) 2 2, .string ⟨#[108, 105, 116]⟩, .int .i64 0, .int .i64 0, .string ⟨#[]⟩, .string ⟨#[]⟩, .string ⟨#[]⟩, .slice none 0 0] 26)) exTwo (some ⟨w.heap.size, 0, none⟩) 2 :=
  two_sub exZero (lit v0) (some ⟨g1, 0, none⟩) none 2 0 h1 (sub_none (fun _ => True) _ _ _ _ _) [61] v0 [] []
theorem sx_mul (w : World) : Sub (fun _ => True) (w.alloc (.cells #[.string ⟨#[108, 105, 116]⟩, .int .i64 2, .int .i64 2, .string ⟨#[]⟩, .string ⟨#[]⟩, .string ⟨#[]⟩, .slice none 0 0, .string ⟨#[108, 105, 116]⟩, .int .i64 2, .int .i64 3, .string ⟨#[]⟩, .string ⟨#[]⟩, .string ⟨#[]⟩, .slice none 0 0] 26)) (op1 [42] [nmE 2, nmE 3]) (some ⟨w.heap.size, 0, none⟩) 2 :=
  two_sub (nmE 2) (nmE 3) none none 0 0 (sub_none (fun _ => True) _ _ _ _ _) (sub_none (fun _ => True) _ _ _ _ _) [42] v0 [] []
theorem sx_three (w : World) (g2 : Nat) (h2 : Sub (fun _ => True) w (op1 [42] [nmE 2, nmE 3]) (some ⟨g2, 0, none⟩) 2) : Sub (fun _ => True) (w.alloc (.cells #[.string ⟨#[97, 116]⟩, .int .i64 2, .int .i64 0, .string ⟨#[]⟩, .string ⟨#[]⟩, .string ⟨#[]⟩, .slice none 0 0, .string ⟨#[42]⟩, .int .i64 0, .int .i64 0, .string ⟨#[]⟩, .string ⟨#[]⟩, .string ⟨#[]⟩, .slice (some ⟨g2, 0, none⟩) 2 2] 26)) exThree (some ⟨w.heap.size, 0, none⟩) 2 :=
  two_sub (atE 0) (op1 [42] [nmE 2, nmE 3]) none (some ⟨g2, 0, none⟩) 0 2 (sub_none (fun _ => True) _ _ _ _ _) h2 [43] v0 [] []
theorem sx_four (w : World) : Sub (fun _ => True) (w.alloc (.cells #[.string ⟨#[97, 116]⟩, .int .i64 2, .int .i64 0, .string ⟨#[]⟩, .string ⟨#[]⟩, .string ⟨#[]⟩, .slice none 0 0, .string ⟨#[108, 105, 116]⟩, .int .i64 2, .int .i64 6, .string ⟨#[]⟩, .string ⟨#[]⟩, .string ⟨#[]⟩, .slice none 0 0] 26)) exFour (some ⟨w.heap.size, 0, none⟩) 2 :=
  two_sub (atE 0) (nmE 6) none none 0 0 (sub_none (fun _ => True) _ _ _ _ _) (sub_none (fun _ => True) _ _ _ _ _) [43] v0 [] []
theorem ev_ex_one (W : World) (g h : Nat) (hE : SC.Env W) (hs : Sub (fun _ => True) W exOne (some ⟨g, 0, none⟩) 2) (hr : BV.RowAt W W.heap.size (some ⟨h, 0, none⟩) [nuV 2]) : Calls Tryz.prog 11 #[.agg #[.string ⟨#[43]⟩, .int .i64 0, .int .i64 0, .string ⟨#[]⟩, .string ⟨#[]⟩, .string ⟨#[]⟩, .slice (some ⟨g, 0, none⟩) 2 2], .slice (some ⟨h, 0, none⟩) 1 1] W fun q w' => q = .returned (.tuple #[.agg #[.int .i64 2, .int .i64 3, .string ⟨#[]⟩], .int .i64 0]) ∧ Below W.heap.size W w' := by
  have h1 := evalE_any [nuV 2] (by simp) exOne _ _ W (some ⟨h, 0, none⟩) 1 ⟨_, _, rfl, hs⟩ hr hE (fit_small _ (by simp [nuV]; decide) exOne (by decide) (by decide) (by decide))
  rw [ex_one] at h1
  exact h1
theorem ev_ex_two (W : World) (A : Option Addr) (hE : SC.Env W) (hs : Sub (fun _ => True) W exTwo A 2) : Calls Tryz.prog 11 #[.agg #[.string ⟨#[61]⟩, .int .i64 0, .int .i64 0, .string ⟨#[]⟩, .string ⟨#[]⟩, .string ⟨#[]⟩, .slice A 2 2], .slice none 0 0] W fun q w' => q = .returned (.tuple #[.agg #[.int .i64 0, .int .i64 0, .string ⟨#[]⟩], .int .i64 31]) ∧ Below W.heap.size W w' := by
  have h1 := evalE_any [] (by simp) exTwo _ _ W none 0 ⟨_, _, rfl, hs⟩ (fun h => by simp at h) hE (fit_small _ (by simp) exTwo (by decide) (by decide) (by decide))
  rw [ex_two] at h1
  exact h1
theorem fd_ex_three (W : World) (g : Nat) (hE : SC.Env W) (hs : Sub (fun _ => True) W exThree (some ⟨g, 0, none⟩) 2) : Calls Tryz.prog 10 #[.agg #[.string ⟨#[43]⟩, .int .i64 0, .int .i64 0, .string ⟨#[]⟩, .string ⟨#[]⟩, .string ⟨#[]⟩, .slice (some ⟨g, 0, none⟩) 2 2]] W fun q w' => ∃ A c, q = .returned (.agg #[.string ⟨#[43]⟩, .int .i64 0, .int .i64 0, .string ⟨#[]⟩, .string ⟨#[]⟩, .string ⟨#[]⟩, .slice A 2 c]) ∧ Sub (fun _ => True) w' exFour A c ∧ Below W.heap.size W w' := by
  have h1 := foldE_any exThree _ _ W ⟨_, _, rfl, hs⟩ (by decide) (fit_small _ (by simp) exThree (by decide) (by decide) (by decide)) hE (by decide) ck_three
  rw [fd_three] at h1
  refine h1.mono ?_
  rintro q w' ⟨A, c, rfl, h2, h3⟩
  exact ⟨A, c, rfl, h2.keep (S' := fun _ => True) (fun _ _ _ => ⟨trivial, rfl⟩) (Nat.le_refl _), h3⟩
theorem fd_ex_zero (W : World) (B : Option Addr) (hE : SC.Env W) (hs : Sub (fun _ => True) W exZero B 2) : Calls Tryz.prog 10 #[.agg #[.string ⟨#[47]⟩, .int .i64 0, .int .i64 0, .string ⟨#[]⟩, .string ⟨#[]⟩, .string ⟨#[]⟩, .slice B 2 2]] W fun q w' => ∃ A c, q = .returned (.agg #[.string ⟨#[47]⟩, .int .i64 0, .int .i64 0, .string ⟨#[]⟩, .string ⟨#[]⟩, .string ⟨#[]⟩, .slice A 2 c]) ∧ Sub (fun _ => True) w' exZero A c ∧ Below W.heap.size W w' := by
  have h1 := foldE_any exZero _ _ W ⟨_, _, rfl, hs⟩ (by decide) (fit_small _ (by simp) exZero (by decide) (by decide) (by decide)) hE (by decide) ck_zero
  rw [fd_zero] at h1
  refine h1.mono ?_
  rintro q w' ⟨A, c, rfl, h2, h3⟩
  exact ⟨A, c, rfl, h2.keep (S' := fun _ => True) (fun _ _ _ => ⟨trivial, rfl⟩) (Nat.le_refl _), h3⟩
theorem same_four (W : World) (A B : Option Addr) (c d : Nat) (h1 : Sub (fun _ => True) W exFour A c) (h2 : Sub (fun _ => True) W exFour B d) : Calls Tryz.prog 13 #[.agg #[.string ⟨#[43]⟩, .int .i64 0, .int .i64 0, .string ⟨#[]⟩, .string ⟨#[]⟩, .string ⟨#[]⟩, .slice A 2 c], .agg #[.string ⟨#[43]⟩, .int .i64 0, .int .i64 0, .string ⟨#[]⟩, .string ⟨#[]⟩, .string ⟨#[]⟩, .slice B 2 d]] W fun q w' => q = .returned (.bool true) ∧ Below W.heap.size W w' := by
  have h := rSame_any exFour exFour _ _ _ _ W ⟨_, _, rfl, h1⟩ ⟨_, _, rfl, h2⟩
  rw [same_refl] at h
  exact h
theorem same_zero (W : World) (A B : Option Addr) (c d : Nat) (h1 : Sub (fun _ => True) W exZero A c) (h2 : Sub (fun _ => True) W exZero B d) : Calls Tryz.prog 13 #[.agg #[.string ⟨#[47]⟩, .int .i64 0, .int .i64 0, .string ⟨#[]⟩, .string ⟨#[]⟩, .string ⟨#[]⟩, .slice A 2 c], .agg #[.string ⟨#[47]⟩, .int .i64 0, .int .i64 0, .string ⟨#[]⟩, .string ⟨#[]⟩, .string ⟨#[]⟩, .slice B 2 d]] W fun q w' => q = .returned (.bool true) ∧ Below W.heap.size W w' := by
  have h := rSame_any exZero exZero _ _ _ _ W ⟨_, _, rfl, h1⟩ ⟨_, _, rfl, h2⟩
  rw [same_refl] at h
  exact h
theorem ck_ex (W : World) : Calls Tryz.prog 12 #[.agg #[.string ⟨#[97, 116]⟩, .int .i64 2, .int .i64 1, .string ⟨#[]⟩, .string ⟨#[]⟩, .string ⟨#[]⟩, .slice none 0 0], .int .i64 1] W fun q w' => q = .returned (.int .i64 1) ∧ Below W.heap.size W w' := by
  have h1 := check_any 1 (atE 1) _ (fun _ => True) W ⟨_, _, rfl, sub_none _ _ _ _ _ _⟩ (by decide) (by decide)
  rw [ck_at] at h1
  exact h1
theorem s17_of {W : World} {p q r : Nat} {c0 c1 c2 c3 c4 c5 c6 d0 d1 d2 d3 d4 d5 d6 : Value} {v : BV.V} (hp : VBox W p v) (hq : B7 W q c0 c1 c2 c3 c4 c5 c6) (hr : B7 W r d0 d1 d2 d3 d4 d5 d6) (w' : World) (hb : Below W.heap.size W w') : Below W.heap.size W w' ∧ w'.cell? ⟨p, 0, none⟩ = some (.int .i64 v.k) ∧ w'.cell? ⟨p, 1, none⟩ = some (.int .i64 v.i) ∧ w'.cell? ⟨p, 2, none⟩ = some (.string v.s) ∧ w'.cell? ⟨q, 0, none⟩ = some c0 ∧ w'.cell? ⟨q, 1, none⟩ = some c1 ∧ w'.cell? ⟨q, 2, none⟩ = some c2 ∧ w'.cell? ⟨q, 3, none⟩ = some c3 ∧ w'.cell? ⟨q, 4, none⟩ = some c4 ∧ w'.cell? ⟨q, 5, none⟩ = some c5 ∧ w'.cell? ⟨q, 6, none⟩ = some c6 ∧ w'.cell? ⟨r, 0, none⟩ = some d0 ∧ w'.cell? ⟨r, 1, none⟩ = some d1 ∧ w'.cell? ⟨r, 2, none⟩ = some d2 ∧ w'.cell? ⟨r, 3, none⟩ = some d3 ∧ w'.cell? ⟨r, 4, none⟩ = some d4 ∧ w'.cell? ⟨r, 5, none⟩ = some d5 ∧ w'.cell? ⟨r, 6, none⟩ = some d6 ∧ True := by
  obtain ⟨z0, z1, z2⟩ := (hp.later hb).cells
  obtain ⟨a0, a1, a2, a3, a4, a5, a6⟩ := (hq.later hb).cells
  obtain ⟨b0, b1, b2, b3, b4, b5, b6⟩ := (hr.later hb).cells
  exact ⟨hb, z0, z1, z2, a0, a1, a2, a3, a4, a5, a6, b0, b1, b2, b3, b4, b5, b6, trivial⟩
theorem rawL1 {b w w' : World} (h : Below b.heap.size b w) (hb : Below (w.alloc (.cells #[.int .i64 0, .int .i64 0, .string ⟨#[]⟩] 23)).heap.size (w.alloc (.cells #[.int .i64 0, .int .i64 0, .string ⟨#[]⟩] 23)) w') : VBox w' w.heap.size SC.zV ∧ b.heap.size ≤ w.heap.size := ⟨raw0.later hb, h.size⟩
theorem rawL0 {b w w' : World} (h : Below b.heap.size b w) (hb : Below (w.alloc (.cells #[.int .i64 0, .int .i64 0, .string ⟨#[]⟩] 23)).drew.heap.size (w.alloc (.cells #[.int .i64 0, .int .i64 0, .string ⟨#[]⟩] 23)).drew w') : VBox w' w.heap.size SC.zV ∧ b.heap.size ≤ w.heap.size := ⟨(vdrew raw0).later hb, h.size⟩
theorem rawL2 {b w w' : World} {o : Obj} (h : Below b.heap.size b w) (hb : Below ((w.alloc (.cells #[.int .i64 0, .int .i64 0, .string ⟨#[]⟩] 23)).alloc o).heap.size ((w.alloc (.cells #[.int .i64 0, .int .i64 0, .string ⟨#[]⟩] 23)).alloc o) w') : VBox w' w.heap.size SC.zV ∧ b.heap.size ≤ w.heap.size := ⟨(raw0.later (bel_allocE (Below.refl _ _) o)).later hb, h.size⟩
theorem s7E_of {W : World} {b : Nat} {c0 c1 c2 c3 c4 c5 c6 : Value} (h : B7 W b c0 c1 c2 c3 c4 c5 c6) (w' : World) (hb : Below W.heap.size W w') : Below W.heap.size W w' ∧ w'.cell? ⟨b, 0, none⟩ = some c0 ∧ w'.cell? ⟨b, 1, none⟩ = some c1 ∧ w'.cell? ⟨b, 2, none⟩ = some c2 ∧ w'.cell? ⟨b, 3, none⟩ = some c3 ∧ w'.cell? ⟨b, 4, none⟩ = some c4 ∧ w'.cell? ⟨b, 5, none⟩ = some c5 ∧ w'.cell? ⟨b, 6, none⟩ = some c6 ∧ True := by
  obtain ⟨a0, a1, a2, a3, a4, a5, a6⟩ := (h.later hb).cells
  exact ⟨hb, a0, a1, a2, a3, a4, a5, a6, trivial⟩
set_option maxRecDepth 100000 in
set_option maxHeartbeats 16000000 in
theorem live_any (w : World) (hE : SC.Env w) : Calls Tryz.prog 7 #[] w fun e w' => e = .returned (.bool true) ∧ Below w.heap.size w w' := by
  have HE := Lib.hid hE
  clear hE
  go_enter Tryz.func7, Tryz.ntmps7
  go_wp2_with fail
  refine (at1_any 0 _).mono ?_
  rintro e w1 ⟨rfl, b1⟩
  go_wp2_with fail
  refine (num_any 1 _).mono ?_
  rintro e w2 ⟨rfl, b2⟩
  have B2 := Lib.hid (bthen b1 b2)
  have S3 := Lib.hid (sx_one w2)
  obtain ⟨W3, hW3⟩ : ∃ W3 : World, W3 = w2.alloc (.cells #[.string ⟨#[97, 116]⟩, .int .i64 2, .int .i64 0, .string ⟨#[]⟩, .string ⟨#[]⟩, .string ⟨#[]⟩, .slice none 0 0, .string ⟨#[108, 105, 116]⟩, .int .i64 2, .int .i64 1, .string ⟨#[]⟩, .string ⟨#[]⟩, .string ⟨#[]⟩, .slice none 0 0] 26) := ⟨_, rfl⟩
  have BW3 : Below w2.heap.size w2 W3 := by rw [hW3]; exact bel_allocE (Below.refl _ _) _
  rw [← hW3] at S3
  have B3 := Lib.hid (bthen B2.out BW3)
  have HW3 := Lib.hid hW3
  clear b1 b2 hW3 BW3
  go_wp2_with (rw [← HW3.out])
  refine (rOp1 _ _ _ _ _).mono ?_
  rintro e w4 ⟨rfl, b4⟩
  have S4 := Lib.hid (sub_later S3.out b4)
  have B4 := Lib.hid (bthen B3.out b4)
  clear b4
  go_wp2_with fail
  refine (rInt1 2 _).mono ?_
  rintro e w5 ⟨rfl, b5⟩
  have S5 := Lib.hid (sub_later S4.out b5)
  have B5 := Lib.hid (bthen B4.out b5)
  obtain ⟨W6, hW6⟩ : ∃ W6 : World, W6 = w5.alloc (.cells #[.int .i64 2, .int .i64 2, .string ⟨#[]⟩] 23) := ⟨_, rfl⟩
  have BW6 : Below w5.heap.size w5 W6 := by rw [hW6]; exact bel_allocE (Below.refl _ _) _
  have A6 : Args W6 w5.heap.size [nuV 2] := by rw [hW6]; exact SC.args1 (w := w5) (a := nuV 2) rfl
  have HC := Lib.hid (ev_ex_one W6 _ w5.heap.size (HE.out.later (bthen B5.out BW6)) (sub_later S5.out BW6) A6.row)
  have B6 := Lib.hid (bthen B5.out BW6)
  have HW6 := Lib.hid hW6
  clear b5 hW6 BW6 A6
  go_wp2_with (rw [← HW6.out])
  refine (HC.out).mono ?_
  rintro e w7 ⟨rfl, b7⟩
  have B7' := Lib.hid (bthen B6.out b7)
  obtain ⟨W8, hW8⟩ : ∃ W8 : World, W8 = w7.alloc (.cells #[.int .i64 2, .int .i64 3, .string ⟨#[]⟩] 23) := ⟨_, rfl⟩
  have BW8 : Below w7.heap.size w7 W8 := by rw [hW8]; exact bel_allocE (Below.refl _ _) _
  have V8 : VBox W8 w7.heap.size (nuV 3) := by rw [hW8]; exact vmade w7 2 3 ⟨#[]⟩
  have HV8 := Lib.hid V8
  have B8 := Lib.hid (bthen B7'.out BW8)
  have HW8 := Lib.hid hW8
  clear b7 hW8 BW8 V8 HC
  go_wp2_with (rw [← HW8.out])
  refine (num_any 1 _).mono ?_
  rintro e w9 ⟨rfl, b9⟩
  go_wp2_with fail
  refine (num_any 0 _).mono ?_
  rintro e w10 ⟨rfl, b10⟩
  have SZ0 := Lib.hid (sx_zero w10)
  obtain ⟨W11, hW11⟩ : ∃ W11 : World, W11 = w10.alloc (.cells #[.string ⟨#[108, 105, 116]⟩, .int .i64 2, .int .i64 1, .string ⟨#[]⟩, .string ⟨#[]⟩, .string ⟨#[]⟩, .slice none 0 0, .string ⟨#[108, 105, 116]⟩, .int .i64 2, .int .i64 0, .string ⟨#[]⟩, .string ⟨#[]⟩, .string ⟨#[]⟩, .slice none 0 0] 26) := ⟨_, rfl⟩
  have BW11 : Below w10.heap.size w10 W11 := by rw [hW11]; exact bel_allocE (Below.refl _ _) _
  rw [← hW11] at SZ0
  have B11 := Lib.hid (bthen B8.out (bthen b9 (bthen b10 BW11)))
  have V11 := Lib.hid (HV8.out.later (bthen b9 (bthen b10 BW11)))
  have HW11 := Lib.hid hW11
  clear b9 b10 hW11 BW11
  go_wp2_with (rw [← HW11.out])
  refine (rOp1 _ _ _ _ _).mono ?_
  rintro e w12 ⟨rfl, b12⟩
  obtain ⟨Wa, Wc, hWa, hWc, p1, p2, hz, hb1, hb2⟩ := made7 w12 (.string ⟨#[47]⟩) (.int .i64 0) (.int .i64 0) (.string ⟨#[]⟩) (.string ⟨#[]⟩) (.string ⟨#[]⟩) (.slice (some ⟨w10.heap.size, 0, none⟩) 2 2)
  have SZ := Lib.hid (sub_later SZ0.out (bthen b12 hb2))
  have BC := Lib.hid (bthen B11.out (bthen b12 hb2))
  have VC := Lib.hid (V11.out.later (bthen b12 hb2))
  have QC := Lib.hid p2
  have HWa := Lib.hid hWa
  have HWc := Lib.hid hWc
  have EC := Lib.hid (HE.out.later BC.out)
  obtain ⟨f0, f1, f2, f3, f4, f5, f6⟩ := p1.free
  obtain ⟨a0, a1, a2, a3, a4, a5, a6⟩ := p1.cells
  clear b12 hb1 hb2 hz hWa hWc p1 p2
  go_upto_region 3 with (first | (rw [← HWc.out]) | (rw [← HWa.out]))
  clear a0 a1 a2 a3 a4 a5 a6 f0 f1 f2 f3 f4 f5 f6
  have KP := Lib.hid (s7E_of QC.out)
  have BB := Lib.hid (Below.refl Wc.heap.size Wc)
  have SS := Lib.hid (KP.out Wc BB.out)
  go_cut [4, 5] (fun s4 s5 wx => ∃ g', s4 = .pointer (some ⟨g', 0, none⟩) ∧ s5 = .int .i64 31 ∧ Below Wc.heap.size Wc wx)
  case first =>
    go_region_held3 (fun w' => Below Wc.heap.size Wc w' ∧ w'.cell? ⟨w12.heap.size, 0, none⟩ = some (.string ⟨#[47]⟩) ∧ w'.cell? ⟨w12.heap.size, 1, none⟩ = some (.int .i64 0) ∧ w'.cell? ⟨w12.heap.size, 2, none⟩ = some (.int .i64 0) ∧ w'.cell? ⟨w12.heap.size, 3, none⟩ = some (.string ⟨#[]⟩) ∧ w'.cell? ⟨w12.heap.size, 4, none⟩ = some (.string ⟨#[]⟩) ∧ w'.cell? ⟨w12.heap.size, 5, none⟩ = some (.string ⟨#[]⟩) ∧ w'.cell? ⟨w12.heap.size, 6, none⟩ = some (.slice (some ⟨w10.heap.size, 0, none⟩) 2 2) ∧ True) ((refine KP.out _ ?_; (repeat (first | with_reducible exact BB.out | with_reducible refine bel_drewE ?_ | with_reducible refine bel_allocE ?_ _ | (with_reducible refine bel_setE ?_ ?_ _; focus (first | with_reducible exact VG.out | with_reducible exact BB.out.size | with_reducible exact Nat.le_refl _)))))) ((first
      | (go_at_call 18; go_must (refine (rLit 0 0 ⟨#[]⟩ _).mono ?_); rintro e w6 ⟨rfl, hb⟩; refine with_fct (bthen (w := Wc) ?_ hb) ?_; (focus (repeat (first | with_reducible exact BB.out | with_reducible refine bel_drewE ?_ | with_reducible refine bel_allocE ?_ _ | (with_reducible refine bel_setE ?_ ?_ _; focus (first | with_reducible exact VG.out | with_reducible exact BB.out.size | with_reducible exact Nat.le_refl _))))); intro b6; (try ((first | with_reducible refine with_fct (VT.out.later (bthen (by first | exact bel_allocE (Below.refl _ _) _ | exact Below.refl _ _) hb)) ?_ | (with_reducible refine with_fct (rawL0 (b := Wc) ?_ hb) ?_; (focus (repeat (first | with_reducible exact BB.out | with_reducible refine bel_drewE ?_ | with_reducible refine bel_allocE ?_ _ | (with_reducible refine bel_setE ?_ ?_ _; focus (first | with_reducible exact VG.out | with_reducible exact BB.out.size | with_reducible exact Nat.le_refl _))))); intro vg; (try simp only [World.size_alloc, World.size_drew] at vg); have VG := Lib.hid vg.2; replace vg := vg.1; revert vg) | (with_reducible refine with_fct (rawL1 (b := Wc) ?_ hb) ?_; (focus (repeat (first | with_reducible exact BB.out | with_reducible refine bel_drewE ?_ | with_reducible refine bel_allocE ?_ _ | (with_reducible refine bel_setE ?_ ?_ _; focus (first | with_reducible exact VG.out | with_reducible exact BB.out.size | with_reducible exact Nat.le_refl _))))); intro vg; (try simp only [World.size_alloc, World.size_drew] at vg); have VG := Lib.hid vg.2; replace vg := vg.1; revert vg) | (with_reducible refine with_fct (rawL2 (b := Wc) ?_ hb) ?_; (focus (repeat (first | with_reducible exact BB.out | with_reducible refine bel_drewE ?_ | with_reducible refine bel_allocE ?_ _ | (with_reducible refine bel_setE ?_ ?_ _; focus (first | with_reducible exact VG.out | with_reducible exact BB.out.size | with_reducible exact Nat.le_refl _))))); intro vg; (try simp only [World.size_alloc, World.size_drew] at vg); have VG := Lib.hid vg.2; replace vg := vg.1; revert vg)); intro vt; obtain ⟨x0, x1, x2⟩ := vt.cells; obtain ⟨y0, y1, y2⟩ := vt.free; simp only [SC.zV] at x0 x1 x2; have VT := Lib.hid vt)); have BB := Lib.hid b6)
      | (go_at_call 21; go_must (refine (rOp1 _ _ _ _ _).mono ?_); rintro e w6 ⟨rfl, hb⟩; refine with_fct (bthen (w := Wc) ?_ hb) ?_; (focus (repeat (first | with_reducible exact BB.out | with_reducible refine bel_drewE ?_ | with_reducible refine bel_allocE ?_ _ | (with_reducible refine bel_setE ?_ ?_ _; focus (first | with_reducible exact VG.out | with_reducible exact BB.out.size | with_reducible exact Nat.le_refl _))))); intro b6; (first | with_reducible refine with_fct (sub_later (sx_two _ _ (sub_later SZ.out ?_)) hb) ?_ | with_reducible refine with_fct (sub_later (sub_later (sx_two _ _ (sub_later SZ.out ?_)) (bel_allocE (Below.refl _ _) _)) hb) ?_); (focus (repeat (first | with_reducible exact BB.out | with_reducible refine bel_drewE ?_ | with_reducible refine bel_allocE ?_ _ | (with_reducible refine bel_setE ?_ ?_ _; focus (first | with_reducible exact VG.out | with_reducible exact BB.out.size | with_reducible exact Nat.le_refl _))))); intro sx; (try simp only [World.size_alloc, World.size_drew] at sx); have SX := Lib.hid sx; (try ((first | with_reducible refine with_fct (VT.out.later (bthen (by first | exact bel_allocE (Below.refl _ _) _ | exact Below.refl _ _) hb)) ?_ | (with_reducible refine with_fct (rawL0 (b := Wc) ?_ hb) ?_; (focus (repeat (first | with_reducible exact BB.out | with_reducible refine bel_drewE ?_ | with_reducible refine bel_allocE ?_ _ | (with_reducible refine bel_setE ?_ ?_ _; focus (first | with_reducible exact VG.out | with_reducible exact BB.out.size | with_reducible exact Nat.le_refl _))))); intro vg; (try simp only [World.size_alloc, World.size_drew] at vg); have VG := Lib.hid vg.2; replace vg := vg.1; revert vg) | (with_reducible refine with_fct (rawL1 (b := Wc) ?_ hb) ?_; (focus (repeat (first | with_reducible exact BB.out | with_reducible refine bel_drewE ?_ | with_reducible refine bel_allocE ?_ _ | (with_reducible refine bel_setE ?_ ?_ _; focus (first | with_reducible exact VG.out | with_reducible exact BB.out.size | with_reducible exact Nat.le_refl _))))); intro vg; (try simp only [World.size_alloc, World.size_drew] at vg); have VG := Lib.hid vg.2; replace vg := vg.1; revert vg) | (with_reducible refine with_fct (rawL2 (b := Wc) ?_ hb) ?_; (focus (repeat (first | with_reducible exact BB.out | with_reducible refine bel_drewE ?_ | with_reducible refine bel_allocE ?_ _ | (with_reducible refine bel_setE ?_ ?_ _; focus (first | with_reducible exact VG.out | with_reducible exact BB.out.size | with_reducible exact Nat.le_refl _))))); intro vg; (try simp only [World.size_alloc, World.size_drew] at vg); have VG := Lib.hid vg.2; replace vg := vg.1; revert vg)); intro vt; obtain ⟨x0, x1, x2⟩ := vt.cells; obtain ⟨y0, y1, y2⟩ := vt.free; simp only [SC.zV] at x0 x1 x2; have VT := Lib.hid vt)); have BB := Lib.hid b6)
      | (go_at_call 11; go_must (first | with_reducible refine (ev_ex_two _ _ ?_ SX.out).mono ?_ | with_reducible refine (ev_ex_two _ _ ?_ (sub_later SX.out (bel_allocE (Below.refl _ _) _))).mono ?_); (focus (refine EC.out.later ?_; (repeat (first | with_reducible exact BB.out | with_reducible refine bel_drewE ?_ | with_reducible refine bel_allocE ?_ _ | (with_reducible refine bel_setE ?_ ?_ _; focus (first | with_reducible exact VG.out | with_reducible exact BB.out.size | with_reducible exact Nat.le_refl _)))))); rintro e w6 ⟨rfl, hb⟩; refine with_fct (bthen (w := Wc) ?_ hb) ?_; (focus (repeat (first | with_reducible exact BB.out | with_reducible refine bel_drewE ?_ | with_reducible refine bel_allocE ?_ _ | (with_reducible refine bel_setE ?_ ?_ _; focus (first | with_reducible exact VG.out | with_reducible exact BB.out.size | with_reducible exact Nat.le_refl _))))); intro b6; (try ((first | with_reducible refine with_fct (VT.out.later (bthen (by first | exact bel_allocE (Below.refl _ _) _ | exact Below.refl _ _) hb)) ?_ | (with_reducible refine with_fct (rawL0 (b := Wc) ?_ hb) ?_; (focus (repeat (first | with_reducible exact BB.out | with_reducible refine bel_drewE ?_ | with_reducible refine bel_allocE ?_ _ | (with_reducible refine bel_setE ?_ ?_ _; focus (first | with_reducible exact VG.out | with_reducible exact BB.out.size | with_reducible exact Nat.le_refl _))))); intro vg; (try simp only [World.size_alloc, World.size_drew] at vg); have VG := Lib.hid vg.2; replace vg := vg.1; revert vg) | (with_reducible refine with_fct (rawL1 (b := Wc) ?_ hb) ?_; (focus (repeat (first | with_reducible exact BB.out | with_reducible refine bel_drewE ?_ | with_reducible refine bel_allocE ?_ _ | (with_reducible refine bel_setE ?_ ?_ _; focus (first | with_reducible exact VG.out | with_reducible exact BB.out.size | with_reducible exact Nat.le_refl _))))); intro vg; (try simp only [World.size_alloc, World.size_drew] at vg); have VG := Lib.hid vg.2; replace vg := vg.1; revert vg) | (with_reducible refine with_fct (rawL2 (b := Wc) ?_ hb) ?_; (focus (repeat (first | with_reducible exact BB.out | with_reducible refine bel_drewE ?_ | with_reducible refine bel_allocE ?_ _ | (with_reducible refine bel_setE ?_ ?_ _; focus (first | with_reducible exact VG.out | with_reducible exact BB.out.size | with_reducible exact Nat.le_refl _))))); intro vg; (try simp only [World.size_alloc, World.size_drew] at vg); have VG := Lib.hid vg.2; replace vg := vg.1; revert vg)); intro vt; obtain ⟨x0, x1, x2⟩ := vt.cells; obtain ⟨y0, y1, y2⟩ := vt.free; simp only [SC.zV] at x0 x1 x2; have VT := Lib.hid vt)); have BB := Lib.hid b6)))
    all_goals (go_wp2_with fail; go_meet; first | exact ⟨_, rfl, rfl, bel_allocE b6 _⟩ | exact ⟨_, rfl, rfl, SC.Below.set3 b6 VG.out _ _ _⟩)
  case rest =>
    obtain ⟨g4, rfl, rfl, hcx⟩ := hcut
    obtain ⟨Wx, rfl⟩ : ∃ Wx : World, Wx = wc := ⟨_, rfl⟩
    have BX := Lib.hid (bthen BC.out hcx)
    have VX := Lib.hid (VC.out.later hcx)
    have QX := Lib.hid (QC.out.later hcx)
    have SX0 := Lib.hid (sub_later SZ.out hcx)
    clear hcx KP BB SS EC VC QC SZ SZ0
    go_wp2_with fail
    refine (at1_any 0 _).mono ?_
    rintro e v1 ⟨rfl, c1⟩
    go_wp2_with fail
    refine (num_any 2 _).mono ?_
    rintro e v2 ⟨rfl, c2⟩
    go_wp2_with fail
    refine (num_any 3 _).mono ?_
    rintro e v3 ⟨rfl, c3⟩
    have SM0 := Lib.hid (sx_mul v3)
    obtain ⟨V4, hV4⟩ : ∃ V4 : World, V4 = v3.alloc (.cells #[.string ⟨#[108, 105, 116]⟩, .int .i64 2, .int .i64 2, .string ⟨#[]⟩, .string ⟨#[]⟩, .string ⟨#[]⟩, .slice none 0 0, .string ⟨#[108, 105, 116]⟩, .int .i64 2, .int .i64 3, .string ⟨#[]⟩, .string ⟨#[]⟩, .string ⟨#[]⟩, .slice none 0 0] 26) := ⟨_, rfl⟩
    have BV4 : Below v3.heap.size v3 V4 := by rw [hV4]; exact bel_allocE (Below.refl _ _) _
    rw [← hV4] at SM0
    have C4 := Lib.hid (bthen c1 (bthen c2 (bthen c3 BV4)))
    have HV4 := Lib.hid hV4
    clear c1 c2 c3 hV4 BV4
    go_wp2_with (rw [← HV4.out])
    refine (rOp1 _ _ _ _ _).mono ?_
    rintro e v5 ⟨rfl, c5⟩
    have ST0 := Lib.hid (sx_three v5 _ (sub_later SM0.out c5))
    obtain ⟨V6, hV6⟩ : ∃ V6 : World, V6 = v5.alloc (.cells #[.string ⟨#[97, 116]⟩, .int .i64 2, .int .i64 0, .string ⟨#[]⟩, .string ⟨#[]⟩, .string ⟨#[]⟩, .slice none 0 0, .string ⟨#[42]⟩, .int .i64 0, .int .i64 0, .string ⟨#[]⟩, .string ⟨#[]⟩, .string ⟨#[]⟩, .slice (some ⟨v3.heap.size, 0, none⟩) 2 2] 26) := ⟨_, rfl⟩
    have BV6 : Below v5.heap.size v5 V6 := by rw [hV6]; exact bel_allocE (Below.refl _ _) _
    rw [← hV6] at ST0
    have C6 := Lib.hid (bthen C4.out (bthen c5 BV6))
    have HV6 := Lib.hid hV6
    clear c5 hV6 BV6
    go_wp2_with (rw [← HV6.out])
    refine (rOp1 _ _ _ _ _).mono ?_
    rintro e v7 ⟨rfl, c7⟩
    have HF := Lib.hid (fd_ex_three v7 _ (HE.out.later (bthen BX.out (bthen C6.out c7))) (sub_later ST0.out c7))
    have C7 := Lib.hid (bthen C6.out c7)
    clear c7
    go_wp2_with fail
    refine (HF.out).mono ?_
    rintro e v8 ⟨A, c, rfl, hs8, c8⟩
    obtain ⟨Wy, Wd, hWy, hWd, p1, p2, hz, hb1, hb2⟩ := made7 v8 (.string ⟨#[43]⟩) (.int .i64 0) (.int .i64 0) (.string ⟨#[]⟩) (.string ⟨#[]⟩) (.string ⟨#[]⟩) (.slice A 2 c)
    have BD0 := bthen C7.out (bthen c8 hb2)
    have BD := Lib.hid (bthen BX.out BD0)
    have VD := Lib.hid (VX.out.later BD0)
    have QD := Lib.hid (QX.out.later BD0)
    have SD := Lib.hid (sub_later SX0.out BD0)
    have PD := Lib.hid p2
    have SF := Lib.hid (sub_later hs8 hb2)
    have HWy := Lib.hid hWy
    have HWd := Lib.hid hWd
    have ED := Lib.hid (HE.out.later BD.out)
    obtain ⟨f0, f1, f2, f3, f4, f5, f6⟩ := p1.free
    obtain ⟨a0, a1, a2, a3, a4, a5, a6⟩ := p1.cells
    clear c8 hb1 hb2 hz hWy hWd p1 p2 BD0 hs8 HF
    go_upto_region 5 with (first | (rw [← HWd.out]) | (rw [← HWy.out]))
    clear a0 a1 a2 a3 a4 a5 a6 f0 f1 f2 f3 f4 f5 f6
    have KP := Lib.hid (s17_of VD.out PD.out QD.out)
    have BB := Lib.hid (Below.refl Wd.heap.size Wd)
    have SS := Lib.hid (KP.out Wd BB.out)
    go_cut [0] (fun s0 wx => s0 = .bool true ∧ Below Wd.heap.size Wd wx)
    case first =>
      go_region_held3 (fun w' => Below Wd.heap.size Wd w' ∧ w'.cell? ⟨w7.heap.size, 0, none⟩ = some (.int .i64 2) ∧ w'.cell? ⟨w7.heap.size, 1, none⟩ = some (.int .i64 3) ∧ w'.cell? ⟨w7.heap.size, 2, none⟩ = some (.string ⟨#[]⟩) ∧ w'.cell? ⟨v8.heap.size, 0, none⟩ = some (.string ⟨#[43]⟩) ∧ w'.cell? ⟨v8.heap.size, 1, none⟩ = some (.int .i64 0) ∧ w'.cell? ⟨v8.heap.size, 2, none⟩ = some (.int .i64 0) ∧ w'.cell? ⟨v8.heap.size, 3, none⟩ = some (.string ⟨#[]⟩) ∧ w'.cell? ⟨v8.heap.size, 4, none⟩ = some (.string ⟨#[]⟩) ∧ w'.cell? ⟨v8.heap.size, 5, none⟩ = some (.string ⟨#[]⟩) ∧ w'.cell? ⟨v8.heap.size, 6, none⟩ = some (.slice A 2 c) ∧ w'.cell? ⟨w12.heap.size, 0, none⟩ = some (.string ⟨#[47]⟩) ∧ w'.cell? ⟨w12.heap.size, 1, none⟩ = some (.int .i64 0) ∧ w'.cell? ⟨w12.heap.size, 2, none⟩ = some (.int .i64 0) ∧ w'.cell? ⟨w12.heap.size, 3, none⟩ = some (.string ⟨#[]⟩) ∧ w'.cell? ⟨w12.heap.size, 4, none⟩ = some (.string ⟨#[]⟩) ∧ w'.cell? ⟨w12.heap.size, 5, none⟩ = some (.string ⟨#[]⟩) ∧ w'.cell? ⟨w12.heap.size, 6, none⟩ = some (.slice (some ⟨w10.heap.size, 0, none⟩) 2 2) ∧ True) ((refine KP.out _ ?_; (repeat (first | with_reducible exact BB.out | with_reducible refine bel_drewE ?_ | with_reducible refine bel_allocE ?_ _ | (with_reducible refine bel_setE ?_ ?_ _; focus (first | with_reducible exact VG.out | with_reducible exact BB.out.size | with_reducible exact Nat.le_refl _)))))) ((first
        | (go_at_call 23; go_must (refine (rInt1 3 _).mono ?_); rintro e w6 ⟨rfl, hb⟩; refine with_fct (bthen (w := Wd) ?_ hb) ?_; (focus (repeat (first | with_reducible exact BB.out | with_reducible refine bel_drewE ?_ | with_reducible refine bel_allocE ?_ _ | (with_reducible refine bel_setE ?_ ?_ _; focus (first | with_reducible exact VG.out | with_reducible exact BB.out.size | with_reducible exact Nat.le_refl _))))); intro b6; have BB := Lib.hid b6)
        | (go_at_call 19; go_must (first | with_reducible refine (at1_any 0 _).mono ?_ | with_reducible refine (at1_any 1 _).mono ?_); rintro e w6 ⟨rfl, hb⟩; refine with_fct (bthen (w := Wd) ?_ hb) ?_; (focus (repeat (first | with_reducible exact BB.out | with_reducible refine bel_drewE ?_ | with_reducible refine bel_allocE ?_ _ | (with_reducible refine bel_setE ?_ ?_ _; focus (first | with_reducible exact VG.out | with_reducible exact BB.out.size | with_reducible exact Nat.le_refl _))))); intro b6; have BB := Lib.hid b6)
        | (go_at_call 22; go_must (refine (num_any 6 _).mono ?_); rintro e w6 ⟨rfl, hb⟩; refine with_fct (bthen (w := Wd) ?_ hb) ?_; (focus (repeat (first | with_reducible exact BB.out | with_reducible refine bel_drewE ?_ | with_reducible refine bel_allocE ?_ _ | (with_reducible refine bel_setE ?_ ?_ _; focus (first | with_reducible exact VG.out | with_reducible exact BB.out.size | with_reducible exact Nat.le_refl _))))); intro b6; have BB := Lib.hid b6)
        | (go_at_call 21; go_must (refine (rOp1 _ _ _ _ _).mono ?_); rintro e w6 ⟨rfl, hb⟩; refine with_fct (sub_later (sx_four _) hb) ?_; intro sx; (try simp only [World.size_alloc, World.size_drew] at sx); have SX := Lib.hid sx; refine with_fct (bthen (w := Wd) ?_ hb) ?_; (focus (repeat (first | with_reducible exact BB.out | with_reducible refine bel_drewE ?_ | with_reducible refine bel_allocE ?_ _ | (with_reducible refine bel_setE ?_ ?_ _; focus (first | with_reducible exact VG.out | with_reducible exact BB.out.size | with_reducible exact Nat.le_refl _))))); intro b6; have BB := Lib.hid b6)
        | (go_at_call 13; go_must (first | with_reducible refine (same_four _ _ _ _ _ (sub_later SF.out ?_) SX.out).mono ?_ | with_reducible refine (same_zero _ _ _ _ _ SY.out (sub_later SD.out ?_)).mono ?_); (focus (repeat (first | with_reducible exact BB.out | with_reducible refine bel_drewE ?_ | with_reducible refine bel_allocE ?_ _ | (with_reducible refine bel_setE ?_ ?_ _; focus (first | with_reducible exact VG.out | with_reducible exact BB.out.size | with_reducible exact Nat.le_refl _))))); rintro e w6 ⟨rfl, hb⟩; refine with_fct (bthen (w := Wd) ?_ hb) ?_; (focus (repeat (first | with_reducible exact BB.out | with_reducible refine bel_drewE ?_ | with_reducible refine bel_allocE ?_ _ | (with_reducible refine bel_setE ?_ ?_ _; focus (first | with_reducible exact VG.out | with_reducible exact BB.out.size | with_reducible exact Nat.le_refl _))))); intro b6; have BB := Lib.hid b6)
        | (go_at_call 10; go_must (with_reducible refine (fd_ex_zero _ _ (ED.out.later ?_) (sub_later SD.out ?_)).mono ?_); (focus (repeat (first | with_reducible exact BB.out | with_reducible refine bel_drewE ?_ | with_reducible refine bel_allocE ?_ _ | (with_reducible refine bel_setE ?_ ?_ _; focus (first | with_reducible exact VG.out | with_reducible exact BB.out.size | with_reducible exact Nat.le_refl _))))); (focus (repeat (first | with_reducible exact BB.out | with_reducible refine bel_drewE ?_ | with_reducible refine bel_allocE ?_ _ | (with_reducible refine bel_setE ?_ ?_ _; focus (first | with_reducible exact VG.out | with_reducible exact BB.out.size | with_reducible exact Nat.le_refl _))))); rintro e w6 ⟨A', c', rfl, sy, hb⟩; have SY := Lib.hid sy; refine with_fct (bthen (w := Wd) ?_ hb) ?_; (focus (repeat (first | with_reducible exact BB.out | with_reducible refine bel_drewE ?_ | with_reducible refine bel_allocE ?_ _ | (with_reducible refine bel_setE ?_ ?_ _; focus (first | with_reducible exact VG.out | with_reducible exact BB.out.size | with_reducible exact Nat.le_refl _))))); intro b6; have BB := Lib.hid b6)
        | (go_at_call 12; go_must (refine (ck_ex _).mono ?_); rintro e w6 ⟨rfl, hb⟩; refine with_fct (bthen (w := Wd) ?_ hb) ?_; (focus (repeat (first | with_reducible exact BB.out | with_reducible refine bel_drewE ?_ | with_reducible refine bel_allocE ?_ _ | (with_reducible refine bel_setE ?_ ?_ _; focus (first | with_reducible exact VG.out | with_reducible exact BB.out.size | with_reducible exact Nat.le_refl _))))); intro b6; have BB := Lib.hid b6)))
      all_goals (go_wp2_with fail; go_meet; first | exact ⟨rfl, b6⟩)
    case rest =>
      obtain ⟨rfl, hcx⟩ := hcut
      go_wp2_with fail
      exact bodyPost_ret (v := .bool true) (by simp [results, Tryz.results7, go_sem]) rfl ⟨rfl, bthen BD.out hcx⟩
end Go.Proofs.YtcmbdghbicjljaaGreatDoor
