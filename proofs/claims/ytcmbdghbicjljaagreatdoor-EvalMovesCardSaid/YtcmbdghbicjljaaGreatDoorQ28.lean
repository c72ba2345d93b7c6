/- Contracts of eval's lit and copied. Condition: expressions of no more than 100000 parts. -/
import Derived.Test.YtcmbdghbicjljaaGreatDoorQ23
import Derived.Test.YtcmbdghbicjljaaGreatDoorQ26
set_option linter.unusedSimpArgs false
set_option linter.unusedVariables false
namespace Go.Proofs.YtcmbdghbicjljaaGreatDoor
open Go.RowKit
open Go.Proofs.YtcmbdghbicjljaaGreatDoor.SC (HV VBox zero_box Args)
def GivesE (w : World) (fe : E) (q : Ending) (w' : World) : Prop := ∃ A c, q = .returned (eVal fe.op fe.v fe.tb fe.nm (.slice A fe.l.length c)) ∧ Sub (fun b => w.heap.size ≤ b) w' fe A c ∧ Below w.heap.size w w'
theorem sub_none (S : Nat → Prop) (w : World) (o : List UInt8) (v : Vl) (t n : List UInt8) : Sub S w (.mk o v t n []) none 0 := ⟨Nat.zero_le _, by unfold maxLen; omega, fun h => by simp at h⟩
theorem heap3E (w : World) (c0 c1 c2 : Value) : (w.alloc (.cells #[c0, c1, c2] 23)).heap[w.heap.size]? = some (.cells #[c0, c1, c2] 23 (0, 0)) := heap_alloc_new w _
set_option maxRecDepth 100000 in
set_option maxHeartbeats 2000000 in
theorem litV (k i : Int) (s : ByteArray) (w : World) : Calls Tryz.prog 42 #[.agg #[.int .i64 k, .int .i64 i, .string s]] w fun r w' => r = .returned (.agg #[.string ⟨#[108, 105, 116]⟩, .int .i64 k, .int .i64 i, .string s, .string ⟨#[]⟩, .string ⟨#[]⟩, .slice none 0 0]) ∧ Below w.heap.size w w' := by
  obtain ⟨W0, hW0⟩ : ∃ W0, W0 = w.alloc (.cells #[.int .i64 k, .int .i64 i, .string s] 23) := ⟨_, rfl⟩
  have h0 : W0.heap[w.heap.size]? = some (.cells #[.int .i64 k, .int .i64 i, .string s] 23 (0, 0)) := by rw [hW0]; exact heap3E w _ _ _
  have z0 : W0.heap.size = w.heap.size + 1 := by rw [hW0]; simp
  have r0 : Below w.heap.size w W0 := by rw [hW0]; exact (Below.refl w.heap.size w).alloc (Nat.le_refl _) _
  obtain ⟨W1, W, hW1, hW, p1, p2, hz, hb1, hb2⟩ := made7 W0 (.string ⟨#[108, 105, 116]⟩) (.int .i64 k) (.int .i64 i) (.string s) (.string ⟨#[]⟩) (.string ⟨#[]⟩) (.slice none 0 0)
  rw [z0] at p1 p2 hW
  have h1 := (hb1.block w.heap.size (by omega)).trans h0
  have k0 : W1.cell? ⟨w.heap.size, 0, none⟩ = some (.int .i64 k) := by rw [Lib.cell_of_heap h1]; rfl
  have k1 : W1.cell? ⟨w.heap.size, 1, none⟩ = some (.int .i64 i) := by rw [Lib.cell_of_heap h1]; rfl
  have k2 : W1.cell? ⟨w.heap.size, 2, none⟩ = some (.string s) := by rw [Lib.cell_of_heap h1]; rfl
  obtain ⟨a0, a1, a2, a3, a4, a5, a6⟩ := p1.cells
  obtain ⟨f0, f1, f2, f3, f4, f5, f6⟩ := p1.free
  obtain ⟨l0, l1, l2, l3, l4, l5, l6⟩ := p2.cells
  have HW0 := Lib.hid hW0
  have HW1 := Lib.hid hW1
  have HW := Lib.hid hW
  have HB := Lib.hid (bthen r0 hb2)
  clear hW0 hW1 hW p1 p2 hb1 hb2 h0 h1 r0
  go_enter Tryz.func42, Tryz.ntmps42
  go_wp2_with (first | (rw [← HW.out]) | (rw [← HW1.out]) | (rw [← HW0.out]))
  exact bodyPost_ret (v := .agg #[.string ⟨#[108, 105, 116]⟩, .int .i64 k, .int .i64 i, .string s, .string ⟨#[]⟩, .string ⟨#[]⟩, .slice none 0 0]) (by simp [results, Tryz.results42, go_sem, l0, l1, l2, l3, l4, l5, l6]) rfl ⟨rfl, HB.out⟩
theorem litG (v : BV.V) (w : World) : Calls Tryz.prog 42 #[.agg #[.int .i64 v.k, .int .i64 v.i, .string v.s]] w (GivesE w (lit (ofV v))) := by
  refine (litV v.k v.i v.s w).mono ?_
  rintro r w' ⟨rfl, h⟩
  refine ⟨none, 0, ?_, sub_none _ _ _ _ _ _, h⟩
  show _ = Ending.returned (.agg #[.string (str wLit), .int .i64 v.k, .int .i64 v.i, .string (str v.s.data.toList), .string (str []), .string (str []), .slice none 0 0])
  rw [list_str]
  rfl
set_option maxRecDepth 100000 in
set_option maxHeartbeats 4000000 in
theorem copied_any (e : E) : ∀ (x : Value) (S : Nat → Prop) (w : World), EAt S w e x → e.size ≤ 100000 → Calls Tryz.prog 28 #[x] w (GivesE w e) := by
  induction e using E.ind with
  | h o v t n l ih =>
    rintro x S w ⟨A, c, rfl, hsub⟩ hsz
    have hlen := len_size l
    simp only [E.size] at hsz
    have HWP := Lib.hid (fun W (hb : Below w.heap.size w W) => withParts_any id 28 #[] (Proofs.enters_of Tryz.func28 (by kernel_rfl) rfl) o v t n l S A c W (sub_later hsub hb) (by omega) fun p hp x S' W' _ hx => ih p hp x S' W' hx (by have := size_mem hp; omega))
    rw [List.map_id] at HWP
    simp only [E.op, E.v, E.tb, E.nm, E.l]
    unfold GivesE
    simp only [E.op, E.v, E.tb, E.nm, E.l]
    generalize hfe : E.mk o v t n l = fe at *
    unfold eVal at *
    generalize str o = bo at *
    generalize str t = bt at *
    generalize str n = bn at *
    generalize str v.s = bs at *
    generalize v.k = vk at *
    generalize v.i = vi at *
    have hb0 := (Below.refl w.heap.size w).alloc (Nat.le_refl _) (.cells #[.string bo, .int .i64 vk, .int .i64 vi, .string bs, .string bt, .string bn, .slice A l.length c] 26)
    have q0 := B7.made w (.string bo) (.int .i64 vk) (.int .i64 vi) (.string bs) (.string bt) (.string bn) (.slice A l.length c)
    have hb1' := (Below.refl (w.alloc (.cells #[.string bo, .int .i64 vk, .int .i64 vi, .string bs, .string bt, .string bn, .slice A l.length c] 26)).heap.size (w.alloc (.cells #[.string bo, .int .i64 vk, .int .i64 vi, .string bs, .string bt, .string bn, .slice A l.length c] 26))).alloc (Nat.le_refl _) (.cells #[.string ⟨#[]⟩, .int .i64 0, .int .i64 0, .string ⟨#[]⟩, .string ⟨#[]⟩, .string ⟨#[]⟩, .slice none 0 0] 26)
    have q1 := q0.later hb1'
    have p1 := B7.made (w.alloc (.cells #[.string bo, .int .i64 vk, .int .i64 vi, .string bs, .string bt, .string bn, .slice A l.length c] 26)) (.string ⟨#[]⟩) (.int .i64 0) (.int .i64 0) (.string ⟨#[]⟩) (.string ⟨#[]⟩) (.string ⟨#[]⟩) (.slice none 0 0)
    have zp : (w.alloc (.cells #[.string bo, .int .i64 vk, .int .i64 vi, .string bs, .string bt, .string bn, .slice A l.length c] 26)).heap.size = w.heap.size + 1 := by simp
    rw [zp] at p1
    have hb1 := bthen hb0 hb1'
    have z1 : ((w.alloc (.cells #[.string bo, .int .i64 vk, .int .i64 vi, .string bs, .string bt, .string bn, .slice A l.length c] 26)).alloc (.cells #[.string ⟨#[]⟩, .int .i64 0, .int .i64 0, .string ⟨#[]⟩, .string ⟨#[]⟩, .string ⟨#[]⟩, .slice none 0 0] 26)).heap.size = w.heap.size + 1 + 1 := by simp
    obtain ⟨W1, hW1⟩ : ∃ W1 : World, W1 = ((w.alloc (.cells #[.string bo, .int .i64 vk, .int .i64 vi, .string bs, .string bt, .string bn, .slice A l.length c] 26)).alloc (.cells #[.string ⟨#[]⟩, .int .i64 0, .int .i64 0, .string ⟨#[]⟩, .string ⟨#[]⟩, .string ⟨#[]⟩, .slice none 0 0] 26)) := ⟨_, rfl⟩
    rw [← hW1] at q1 p1 hb1 z1
    have HW1 := Lib.hid hW1
    have Q1 := Lib.hid q1
    have P1 := Lib.hid p1
    have B1 := Lib.hid hb1
    have Z1 := Lib.hid z1
    obtain ⟨x0, x1, x2, x3, x4, x5, x6⟩ := q1.cells
    clear hb0 q0 hb1' q1 p1 hb1 z1 zp hW1
    have HWP' := Lib.hid (HWP.out W1 B1.out)
    clear HWP ih hsub hsz hlen
    go_enter Tryz.func28, Tryz.ntmps28
    go_wp2_with (rw [← HW1.out])
    refine (HWP'.out).mono ?_
    rintro e w6 ⟨A6, c6, rfl, hs6, b6⟩
    have P6 := Lib.hid (P1.out.later b6)
    have B6 := Lib.hid (bthen B1.out b6)
    have HS6 := Lib.hid hs6
    clear hs6 b6 HWP' x0 x1 x2 x3 x4 x5 x6
    obtain ⟨y0, y1, y2, y3, y4, y5, y6⟩ := P6.out.cells
    obtain ⟨f0, f1, f2, f3, f4, f5, f6⟩ := P6.out.free
    obtain ⟨W8, hW8, b8, z8, o8, l8⟩ := stored7 P6.out (.string bo) (.int .i64 vk) (.int .i64 vi) (.string bs) (.string bt) (.string bn) (.slice A6 l.length c6)
    obtain ⟨k0, k1, k2, k3, k4, k5, k6⟩ := b8.cells
    have HFIN : Hid (Sub (fun b => w.heap.size ≤ b) W8 fe A6 c6 ∧ Below w.heap.size w W8) := ⟨HS6.out.keep (fun b hb _ => ⟨by have h1 : W1.heap.size ≤ b := hb; have h2 := Z1.out; omega, o8 b (by have h1 : W1.heap.size ≤ b := hb; have h2 := Z1.out; omega)⟩) (by rw [z8]; exact Nat.le_refl _), B6.out.trans (l8 w.heap.size (by omega))⟩
    have HW8 := Lib.hid hW8
    clear hW8 b8 z8 o8 l8
    go_wp2_with (rw [← HW8.out])
    exact bodyPost_ret (v := .agg #[.string bo, .int .i64 vk, .int .i64 vi, .string bs, .string bt, .string bn, .slice A6 l.length c6]) (by simp [results, Tryz.results28, go_sem, k0, k1, k2, k3, k4, k5, k6]) rfl ⟨A6, c6, rfl, HFIN.out⟩
end Go.Proofs.YtcmbdghbicjljaaGreatDoor
namespace Go.Proofs.YtcmbdghbicjljaaGreatDoor
open Go.RowKit
open Go.Proofs.YtcmbdghbicjljaaGreatDoor.SC (HV VBox zero_box Args)
set_option maxRecDepth 100000 in
set_option maxHeartbeats 8000000 in
theorem folded_any (e : E) : ∀ (x : Value) (S : Nat → Prop) (w : World), EAt S w e x → e.size ≤ 100000 → e.fit deedP [] → SC.Env w → Calls Tryz.prog 29 #[x] w (GivesE w (e.fd deedP)) := by
  induction e using E.ind with
  | h o v t n l ih =>
    rintro x S w ⟨A, c, rfl, hsub⟩ hsz hfit hE
    have hlen := len_size l
    simp only [E.size] at hsz
    have HWP := Lib.hid (fun W (hb : Below w.heap.size w W) => withParts_any (E.fd deedP) 29 #[] (Proofs.enters_of Tryz.func29 (by kernel_rfl) rfl) o v t n l S A c W (sub_later hsub hb) (by omega) fun p hp x S' W' hb' hx => ih p hp x S' W' hx (by have := size_mem hp; omega) (fit_part hfit p hp) ((hE.later hb).later hb'))
    have HEV := Lib.hid (fun W (hb : Below w.heap.size w W) (S : Nat → Prop) A c (hs : Sub S W (.mk o v t n (l.map (E.fd deedP))) A c) => evalE_any [] (by simp) (.mk o v t n (l.map (E.fd deedP))) _ S W none 0 ⟨A, c, rfl, hs⟩ (fun h => by simp at h) (hE.later hb) (fdm_fit deedP [] o v t n l hfit hfit))
    have HFD : Hid ((E.mk o v t n l).fd deedP = if ((E.mk o v t n (l.map (E.fd deedP))).ev deedP []).1 = 0 then lit (ofV ((E.mk o v t n (l.map (E.fd deedP))).ev deedP []).2) else .mk o v t n (l.map (E.fd deedP))) := by
      show _ = _
      rw [E.fd, fdL_map]
    simp only [E.op, E.v, E.tb, E.nm, E.l, List.length_map, List.length_nil] at HEV ⊢
    unfold GivesE
    generalize (E.mk o v t n l).fd deedP = ge at *
    have HME : Hid (∀ A, eVal (E.mk o v t n (l.map (E.fd deedP))).op (E.mk o v t n (l.map (E.fd deedP))).v (E.mk o v t n (l.map (E.fd deedP))).tb (E.mk o v t n (l.map (E.fd deedP))).nm A = eVal o v t n A ∧ (E.mk o v t n (l.map (E.fd deedP))).l.length = l.length) := fun A => ⟨rfl, by simp [E.l]⟩
    generalize hfe : E.mk o v t n (l.map (E.fd deedP)) = fe at *
    generalize hfev : fe.ev deedP [] = an at *
    obtain ⟨er, uk, ui, us⟩ := an
    unfold eVal vA at HEV
    simp only [eVal] at HWP HME ⊢
    generalize str o = bo at *
    generalize str t = bt at *
    generalize str n = bn at *
    generalize str v.s = bs at *
    generalize v.k = vk at *
    generalize v.i = vi at *
    have hb0 := (Below.refl w.heap.size w).alloc (Nat.le_refl _) (.cells #[.string bo, .int .i64 vk, .int .i64 vi, .string bs, .string bt, .string bn, .slice A l.length c] 26)
    have q0 := B7.made w (.string bo) (.int .i64 vk) (.int .i64 vi) (.string bs) (.string bt) (.string bn) (.slice A l.length c)
    have hb1' := (Below.refl (w.alloc (.cells #[.string bo, .int .i64 vk, .int .i64 vi, .string bs, .string bt, .string bn, .slice A l.length c] 26)).heap.size (w.alloc (.cells #[.string bo, .int .i64 vk, .int .i64 vi, .string bs, .string bt, .string bn, .slice A l.length c] 26))).alloc (Nat.le_refl _) (.cells #[.string ⟨#[]⟩, .int .i64 0, .int .i64 0, .string ⟨#[]⟩, .string ⟨#[]⟩, .string ⟨#[]⟩, .slice none 0 0] 26)
    have q1 := q0.later hb1'
    have p1 := B7.made (w.alloc (.cells #[.string bo, .int .i64 vk, .int .i64 vi, .string bs, .string bt, .string bn, .slice A l.length c] 26)) (.string ⟨#[]⟩) (.int .i64 0) (.int .i64 0) (.string ⟨#[]⟩) (.string ⟨#[]⟩) (.string ⟨#[]⟩) (.slice none 0 0)
    have zp : (w.alloc (.cells #[.string bo, .int .i64 vk, .int .i64 vi, .string bs, .string bt, .string bn, .slice A l.length c] 26)).heap.size = w.heap.size + 1 := by simp
    rw [zp] at p1
    have hb1 := bthen hb0 hb1'
    have z1 : ((w.alloc (.cells #[.string bo, .int .i64 vk, .int .i64 vi, .string bs, .string bt, .string bn, .slice A l.length c] 26)).alloc (.cells #[.string ⟨#[]⟩, .int .i64 0, .int .i64 0, .string ⟨#[]⟩, .string ⟨#[]⟩, .string ⟨#[]⟩, .slice none 0 0] 26)).heap.size = w.heap.size + 1 + 1 := by simp
    obtain ⟨W1, hW1⟩ : ∃ W1 : World, W1 = ((w.alloc (.cells #[.string bo, .int .i64 vk, .int .i64 vi, .string bs, .string bt, .string bn, .slice A l.length c] 26)).alloc (.cells #[.string ⟨#[]⟩, .int .i64 0, .int .i64 0, .string ⟨#[]⟩, .string ⟨#[]⟩, .string ⟨#[]⟩, .slice none 0 0] 26)) := ⟨_, rfl⟩
    rw [← hW1] at q1 p1 hb1 z1
    have HW1 := Lib.hid hW1
    have Q1 := Lib.hid q1
    have P1 := Lib.hid p1
    have B1 := Lib.hid hb1
    have Z1 := Lib.hid z1
    obtain ⟨x0, x1, x2, x3, x4, x5, x6⟩ := q1.cells
    clear hb0 q0 hb1' q1 p1 hb1 z1 zp hW1
    have HWP' := Lib.hid (HWP.out W1 B1.out)
    clear HWP ih hsub hsz hlen hfit hE hfe hfev
    go_enter Tryz.func29, Tryz.ntmps29
    go_wp2_with (rw [← HW1.out])
    refine (HWP'.out).mono ?_
    rintro e w6 ⟨A6, c6, rfl, hs6, b6⟩
    have q6 := Q1.out.later b6
    obtain ⟨y0, y1, y2, y3, y4, y5, y6⟩ := q6.cells
    obtain ⟨f0, f1, f2, f3, f4, f5, f6⟩ := q6.free
    obtain ⟨W2, hW2, q2, z2, o2, l2⟩ := stored7 q6 (.string bo) (.int .i64 vk) (.int .i64 vi) (.string bs) (.string bt) (.string bn) (.slice A6 l.length c6)
    have hb2 : Below w.heap.size w W2 := (bthen B1.out b6).trans (l2 w.heap.size (Nat.le_refl _))
    have hs2 : Sub (fun b => W1.heap.size ≤ b) W2 fe A6 c6 := hs6.keep (fun b hb _ => ⟨hb, o2 b (by have h1 : W1.heap.size ≤ b := hb; have h2 := Z1.out; omega)⟩) (by rw [z2]; exact Nat.le_refl _)
    have p2 := (P1.out.later b6).same (w' := W2) (o2 _ (by omega))
    have HC := Lib.hid (HEV.out W2 hb2 _ A6 c6 hs2)
    have HW2 := Lib.hid hW2
    have Q2 := Lib.hid q2
    have P2 := Lib.hid p2
    have B2 := Lib.hid hb2
    have HS2 := Lib.hid hs2
    have Z2 : Hid (W1.heap.size ≤ W2.heap.size) := by show W1.heap.size ≤ W2.heap.size; rw [z2]; exact b6.size
    have g := q2.cells
    obtain ⟨t0, t1, t2, t3, t4, t5, t6⟩ := g
    clear hW2 q2 o2 l2 hs2 p2 hb2 hs6 b6 q6 z2 HWP' x0 x1 x2 x3 x4 x5 x6
    go_wp2_with (rw [← HW2.out])
    refine (HC.out).mono ?_
    rintro e w3 ⟨rfl, b3⟩
    clear y0 y1 y2 y3 y4 y5 y6 f0 f1 f2 f3 f4 f5 f6 t0 t1 t2 t3 t4 t5 t6 HC HW2
    have B3 := Lib.hid (bthen B2.out b3)
    have P3 := Lib.hid (P2.out.later b3)
    have Q3 := Lib.hid (Q2.out.later b3)
    have HS3 := Lib.hid (HS2.out.keep (S' := fun b => W1.heap.size ≤ b) (fun b hb hlt => ⟨hb, b3.block b hlt⟩) b3.size)
    have Z3 : Hid (W1.heap.size ≤ w3.heap.size) := Nat.le_trans Z2.out b3.size
    clear b3 B2 P2 Q2 HS2 Z2
    by_cases her : er = 0
    · subst her
      have hge := HFD.out
      rw [if_pos rfl] at hge
      obtain ⟨W4, hW4, v4, b4⟩ : ∃ W4 : World, W4 = w3.alloc (.cells #[.int .i64 uk, .int .i64 ui, .string us] 23) ∧ VBox W4 w3.heap.size ⟨uk, ui, us⟩ ∧ Below w3.heap.size w3 W4 := ⟨_, rfl, vmade w3 uk ui us, bel_allocE (Below.refl _ _) _⟩
      have HL := Lib.hid (litG ⟨uk, ui, us⟩ W4)
      rw [← hge] at HL
      unfold GivesE at HL
      have B4 := Lib.hid (bthen B3.out b4)
      have P4 := Lib.hid (P3.out.later b4)
      obtain ⟨g0, g1, g2⟩ := v4.cells
      simp only at g0 g1 g2
      have HW4 := Lib.hid hW4
      have Z4 : Hid (W1.heap.size ≤ W4.heap.size) := Nat.le_trans Z3.out b4.size
      clear hW4 v4 b4 hge HFD HME
      simp only [eVal] at HL
      go_wp2_with (rw [← HW4.out])
      refine (HL.out).mono ?_
      rintro e w6 ⟨A6, c6, rfl, hs6, b6⟩
      have P6 := Lib.hid (P4.out.later b6)
      have B6 := Lib.hid (bthen B4.out b6)
      have HS6 := Lib.hid (hs6.keep (S' := fun b => W1.heap.size ≤ b) (fun b hb _ => ⟨Nat.le_trans Z4.out hb, rfl⟩) (Nat.le_refl _))
      clear hs6 b6 g0 g1 g2
      obtain ⟨y0, y1, y2, y3, y4, y5, y6⟩ := P6.out.cells
      obtain ⟨f0, f1, f2, f3, f4, f5, f6⟩ := P6.out.free
      obtain ⟨W8, hW8, b8, z8, o8, l8⟩ := stored7 P6.out (.string (str ge.op)) (.int .i64 ge.v.k) (.int .i64 ge.v.i) (.string (str ge.v.s)) (.string (str ge.tb)) (.string (str ge.nm)) (.slice A6 ge.l.length c6)
      obtain ⟨k0, k1, k2, k3, k4, k5, k6⟩ := b8.cells
      have HFIN : Hid (Sub (fun b => w.heap.size ≤ b) W8 ge A6 c6 ∧ Below w.heap.size w W8) := ⟨HS6.out.keep (fun b hb _ => ⟨by have h1 : W1.heap.size ≤ b := hb; have h2 := Z1.out; omega, o8 b (by have h1 : W1.heap.size ≤ b := hb; have h2 := Z1.out; omega)⟩) (by rw [z8]; exact Nat.le_refl _), B6.out.trans (l8 w.heap.size (by omega))⟩
      have HW8 := Lib.hid hW8
      clear hW8 b8 z8 o8 l8
      go_wp2_with (rw [← HW8.out])
      exact bodyPost_ret (v := .agg #[.string (str ge.op), .int .i64 ge.v.k, .int .i64 ge.v.i, .string (str ge.v.s), .string (str ge.tb), .string (str ge.nm), .slice A6 ge.l.length c6]) (by simp [results, Tryz.results29, go_sem, k0, k1, k2, k3, k4, k5, k6]) rfl ⟨A6, c6, rfl, HFIN.out⟩
    · have hge := HFD.out
      rw [if_neg her] at hge
      subst hge
      have her' : (er != 0) = true := by simpa using her
      obtain ⟨W4, hW4, b4⟩ : ∃ W4 : World, W4 = w3.alloc (.cells #[.int .i64 uk, .int .i64 ui, .string us] 23) ∧ Below w3.heap.size w3 W4 := ⟨_, rfl, bel_allocE (Below.refl _ _) _⟩
      have B6 := Lib.hid (bthen B3.out b4)
      have P6 := Lib.hid (P3.out.later b4)
      have q4 := Q3.out.later b4
      obtain ⟨t0, t1, t2, t3, t4, t5, t6⟩ := q4.cells
      have HS6 := Lib.hid (HS3.out.keep (S' := fun b => W1.heap.size ≤ b) (fun b hb hlt => ⟨hb, b4.block b hlt⟩) b4.size)
      have HW4 := Lib.hid hW4
      have HPOST : Hid (ge.l.length = l.length ∧ ∀ A, Value.agg #[.string (str ge.op), .int .i64 ge.v.k, .int .i64 ge.v.i, .string (str ge.v.s), .string (str ge.tb), .string (str ge.nm), A] = .agg #[.string bo, .int .i64 vk, .int .i64 vi, .string bs, .string bt, .string bn, A]) := ⟨(HME.out (.int .i64 0)).2, fun A => (HME.out A).1⟩
      clear hW4 b4 q4 her HFD HME
      obtain ⟨y0, y1, y2, y3, y4, y5, y6⟩ := P6.out.cells
      obtain ⟨f0, f1, f2, f3, f4, f5, f6⟩ := P6.out.free
      obtain ⟨W8, hW8, b8, z8, o8, l8⟩ := stored7 P6.out (.string bo) (.int .i64 vk) (.int .i64 vi) (.string bs) (.string bt) (.string bn) (.slice A6 l.length c6)
      obtain ⟨k0, k1, k2, k3, k4, k5, k6⟩ := b8.cells
      have HFIN : Hid (Sub (fun b => w.heap.size ≤ b) W8 ge A6 c6 ∧ Below w.heap.size w W8) := ⟨HS6.out.keep (fun b hb _ => ⟨by have h1 : W1.heap.size ≤ b := hb; have h2 := Z1.out; omega, o8 b (by have h1 : W1.heap.size ≤ b := hb; have h2 := Z1.out; omega)⟩) (by rw [z8]; exact Nat.le_refl _), B6.out.trans (l8 w.heap.size (by omega))⟩
      have HW8 := Lib.hid hW8
      clear hW8 b8 z8 o8 l8
      go_wp2_with (first | (rw [← HW8.out]) | (rw [← HW4.out]))
      exact bodyPost_ret (v := .agg #[.string bo, .int .i64 vk, .int .i64 vi, .string bs, .string bt, .string bn, .slice A6 l.length c6]) (by simp [results, Tryz.results29, go_sem, k0, k1, k2, k3, k4, k5, k6]) rfl ⟨A6, c6, by rw [HPOST.out.1, HPOST.out.2], HFIN.out⟩
end Go.Proofs.YtcmbdghbicjljaaGreatDoor
namespace Go.Proofs.YtcmbdghbicjljaaGreatDoor
open Go.RowKit
open Go.Proofs.YtcmbdghbicjljaaGreatDoor.SC (HV VBox zero_box Args)
set_option maxRecDepth 100000 in
theorem isAgg_any (n : List UInt8) (w : World) : Calls Tryz.prog 71 #[.string (str n)] w fun e w' => e = .returned (.bool (aggB n)) ∧ w' = w := by
  by_cases h0 : n = wCount
  · have e : str n = ⟨#[99, 111, 117, 110, 116]⟩ := by rw [h0]; rfl
    have hb : aggB n = true := by rw [h0]; decide
    rw [e, hb]
    go_enter Tryz.func71, Tryz.ntmps71
    go_wp2_with fail
    go_ret
    exact ⟨rfl, rfl⟩
  have m0 : ((str n).toList == [99, 111, 117, 110, 116]) = false := by rw [Lib.toList_data, str_list]; exact beq_eq_false_iff_ne.2 h0
  by_cases h1 : n = wSum
  · have e : str n = ⟨#[115, 117, 109]⟩ := by rw [h1]; rfl
    have hb : aggB n = true := by rw [h1]; decide
    rw [e, hb]
    go_enter Tryz.func71, Tryz.ntmps71
    go_wp2_with fail
    go_ret
    exact ⟨rfl, rfl⟩
  have m1 : ((str n).toList == [115, 117, 109]) = false := by rw [Lib.toList_data, str_list]; exact beq_eq_false_iff_ne.2 h1
  by_cases h2 : n = wMin
  · have e : str n = ⟨#[109, 105, 110]⟩ := by rw [h2]; rfl
    have hb : aggB n = true := by rw [h2]; decide
    rw [e, hb]
    go_enter Tryz.func71, Tryz.ntmps71
    go_wp2_with fail
    go_ret
    exact ⟨rfl, rfl⟩
  have m2 : ((str n).toList == [109, 105, 110]) = false := by rw [Lib.toList_data, str_list]; exact beq_eq_false_iff_ne.2 h2
  by_cases h3 : n = wMax
  · have e : str n = ⟨#[109, 97, 120]⟩ := by rw [h3]; rfl
    have hb : aggB n = true := by rw [h3]; decide
    rw [e, hb]
    go_enter Tryz.func71, Tryz.ntmps71
    go_wp2_with fail
    go_ret
    exact ⟨rfl, rfl⟩
  have m3 : ((str n).toList == [109, 97, 120]) = false := by rw [Lib.toList_data, str_list]; exact beq_eq_false_iff_ne.2 h3
  have hb : aggB n = false := by unfold aggB; simp [h0, h1, h2, h3]
  rw [hb]
  clear h0 h1 h2 h3 hb
  generalize str n = bn at *
  go_enter Tryz.func71, Tryz.ntmps71
  go_wp2_with fail
  go_ret
  exact ⟨rfl, rfl⟩
def placeE (W : Int) : E → Bool
  | .mk o v t n l => o == wAt && placeB W v t n l
theorem place_same (W : Int) (e : E) : (e.same (.mk wAt ⟨2, e.v.i, []⟩ [] [] []) && decide (0 ≤ e.v.i) && decide (e.v.i < W)) = placeE W e := by
  obtain ⟨o, ⟨k, i, s⟩, t, n, l⟩ := e
  show ((E.mk o ⟨k, i, s⟩ t n l).same (.mk wAt ⟨2, i, []⟩ [] [] []) && decide (0 ≤ i) && decide (i < W)) = (o == wAt && placeB W ⟨k, i, s⟩ t n l)
  rw [Bool.eq_iff_iff, Bool.and_eq_true, Bool.and_eq_true, decide_eq_true_eq, decide_eq_true_eq, same_iff]
  simp only [placeB, Bool.and_eq_true, beq_iff_eq, List.isEmpty_iff, decide_eq_true_eq, E.mk.injEq, Vl.mk.injEq]
  constructor
  · rintro ⟨⟨⟨h1, ⟨h2, -, h3⟩, h4, h5, h6⟩, h7⟩, h8⟩
    exact ⟨h1, ⟨⟨⟨h2, h3⟩, h7⟩, h8⟩, ⟨h4, h5⟩, h6⟩
  · rintro ⟨h1, ⟨⟨⟨h2, h3⟩, h7⟩, h8⟩, ⟨h4, h5⟩, h6⟩
    exact ⟨⟨⟨h1, ⟨h2, trivial, h3⟩, h4, h5, h6⟩, h7⟩, h8⟩
set_option maxRecDepth 100000 in
set_option maxHeartbeats 4000000 in
theorem isPlace_any (e : E) (x : Value) (S : Nat → Prop) (w : World) (W : Int) (hx : EAt S w e x) : Calls Tryz.prog 70 #[x, .int .i64 W] w fun q w' => q = .returned (.bool (placeE W e)) ∧ Below w.heap.size w w' := by
  obtain ⟨A, c, rfl, hsub⟩ := hx
  have hx0 : EAt S w e (eVal e.op e.v e.tb e.nm (.slice A e.l.length c)) := ⟨A, c, rfl, hsub⟩
  rw [← place_same]
  have HS := Lib.hid (fun W' (hb : Below w.heap.size w W') => eSame_any e (.mk wAt ⟨2, e.v.i, []⟩ [] [] []) _ _ S (fun _ => True) W' (hx0.later hb) ⟨none, 0, rfl, sub_none _ _ _ _ _ _⟩)
  obtain ⟨W1, hW1, q1, z1, r1⟩ := box7 w (.string (str e.op)) (.int .i64 e.v.k) (.int .i64 e.v.i) (.string (str e.v.s)) (.string (str e.tb)) (.string (str e.nm)) (.slice A e.l.length c)
  have HS' : Hid (∀ W', Below w.heap.size w W' → Calls Tryz.prog 98 #[.agg #[.string (str e.op), .int .i64 e.v.k, .int .i64 e.v.i, .string (str e.v.s), .string (str e.tb), .string (str e.nm), .slice A e.l.length c], .agg #[.string ⟨#[97, 116]⟩, .int .i64 2, .int .i64 e.v.i, .string ⟨#[]⟩, .string ⟨#[]⟩, .string ⟨#[]⟩, .slice none 0 0]] W' fun r w' => r = .returned (.bool (e.same (.mk wAt ⟨2, e.v.i, []⟩ [] [] []))) ∧ Below W'.heap.size W' w') := HS.out
  unfold eVal
  generalize e.same (.mk wAt ⟨2, e.v.i, []⟩ [] [] []) = sm at *
  generalize str e.op = bo at *
  generalize str e.tb = bt at *
  generalize str e.nm = bn at *
  generalize str e.v.s = bs at *
  generalize e.v.k = vk at *
  generalize e.v.i = vi at *
  generalize e.l.length = ln at *
  obtain ⟨W2, hW2, v2, b2⟩ : ∃ W2 : World, W2 = W1.alloc (.cells #[.int .i64 2, .int .i64 vi, .string ⟨#[]⟩] 23) ∧ VBox W2 W1.heap.size ⟨2, vi, ⟨#[]⟩⟩ ∧ Below W1.heap.size W1 W2 := ⟨_, rfl, vmade W1 2 vi ⟨#[]⟩, bel_allocE (Below.refl _ _) _⟩
  rw [z1] at v2
  obtain ⟨a0, a1, a2, a3, a4, a5, a6⟩ := q1.cells
  obtain ⟨t0, t1, t2, t3, t4, t5, t6⟩ := (q1.later b2).cells
  obtain ⟨g0, g1, g2⟩ := v2.cells
  have g1' := fun w' (h : Below W2.heap.size W2 w') => (v2.later h).cells.2.1
  have HG := Lib.hid g1'
  have HB := Lib.hid (bthen r1 b2)
  have HC := Lib.hid (HS'.out W2 HB.out)
  have HW1 := Lib.hid hW1
  have HW2 := Lib.hid hW2
  simp only at g0 g1 g2
  clear hx0 hsub hW1 hW2 q1 r1 v2 b2 HS HS' g1'
  go_enter Tryz.func70, Tryz.ntmps70
  go_wp2_with (first | (rw [← HW2.out]) | (rw [← HW1.out]))
  refine (HC.out).mono ?_
  rintro q w3 ⟨rfl, b3⟩
  have h1 : w3.cell? ⟨w.heap.size + 1, 1, none⟩ = some (.int .i64 vi) := HG.out w3 b3
  have B3 := Lib.hid (bthen HB.out b3)
  clear b3 a0 a1 a2 a3 a4 a5 a6 t0 t1 t2 t3 t4 t5 t6 g0 g1 g2 HG
  cases sm
  · go_wp2_with fail
    go_ret
    exact ⟨rfl, B3.out⟩
  · by_cases h0 : 0 ≤ vi
    · by_cases hw : vi < W
      · go_wp2_with fail
        go_ret
        exact ⟨by simp [h0, hw], B3.out⟩
      · go_wp2_with fail
        go_ret
        exact ⟨by simp; intro h; omega, B3.out⟩
    · go_wp2_with fail
      go_ret
      exact ⟨by simp; intro h; omega, B3.out⟩
def IBox (w : World) (g : Nat) (n : Int) : Prop := w.heap[g]? = some (.cells #[.int .i64 n] 3 (0, 0))
theorem IBox.later {w w' : World} {g : Nat} {n : Int} (h : IBox w g n) (hb : Below w.heap.size w w') : IBox w' g n := (hb.block g (Array.getElem?_eq_some_iff.1 h).1).trans h
theorem IBox.cell {w : World} {g : Nat} {n : Int} (h : IBox w g n) : w.cell? ⟨g, 0, none⟩ = some (.int .i64 n) := by rw [Lib.cell_of_heap h]; rfl
set_option maxRecDepth 100000 in
set_option maxHeartbeats 4000000 in
theorem unb1_any (W0 : Int) (fe : E) (o : List UInt8) (v : Vl) (t n : List UInt8) (l : List E) (A : Option Addr) (c g : Nat) (w : World) (hg : IBox w g W0) (hcall : ∀ W, Below w.heap.size w W → Calls Tryz.prog 32 #[eVal o v t n (.slice A l.length c), .int .i64 W0] W (GivesE W fe)) :
    Calls Tryz.prog 72 #[eVal o v t n (.slice A l.length c), .pointer (some ⟨g, 0, none⟩)] w (GivesE w fe) := by
  have HCL := Lib.hid hcall
  unfold GivesE at *
  simp only [eVal] at HCL ⊢
  generalize str o = bo at *
  generalize str t = bt at *
  generalize str n = bn at *
  generalize str v.s = bs at *
  generalize v.k = vk at *
  generalize v.i = vi at *
  have hb0 := (Below.refl w.heap.size w).alloc (Nat.le_refl _) (.cells #[.string bo, .int .i64 vk, .int .i64 vi, .string bs, .string bt, .string bn, .slice A l.length c] 26)
  have q0 := B7.made w (.string bo) (.int .i64 vk) (.int .i64 vi) (.string bs) (.string bt) (.string bn) (.slice A l.length c)
  have hb1' := (Below.refl (w.alloc (.cells #[.string bo, .int .i64 vk, .int .i64 vi, .string bs, .string bt, .string bn, .slice A l.length c] 26)).heap.size (w.alloc (.cells #[.string bo, .int .i64 vk, .int .i64 vi, .string bs, .string bt, .string bn, .slice A l.length c] 26))).alloc (Nat.le_refl _) (.cells #[.string ⟨#[]⟩, .int .i64 0, .int .i64 0, .string ⟨#[]⟩, .string ⟨#[]⟩, .string ⟨#[]⟩, .slice none 0 0] 26)
  have q1 := q0.later hb1'
  have p1 := B7.made (w.alloc (.cells #[.string bo, .int .i64 vk, .int .i64 vi, .string bs, .string bt, .string bn, .slice A l.length c] 26)) (.string ⟨#[]⟩) (.int .i64 0) (.int .i64 0) (.string ⟨#[]⟩) (.string ⟨#[]⟩) (.string ⟨#[]⟩) (.slice none 0 0)
  have zp : (w.alloc (.cells #[.string bo, .int .i64 vk, .int .i64 vi, .string bs, .string bt, .string bn, .slice A l.length c] 26)).heap.size = w.heap.size + 1 := by simp
  rw [zp] at p1
  have hb1 := bthen hb0 hb1'
  have z1 : ((w.alloc (.cells #[.string bo, .int .i64 vk, .int .i64 vi, .string bs, .string bt, .string bn, .slice A l.length c] 26)).alloc (.cells #[.string ⟨#[]⟩, .int .i64 0, .int .i64 0, .string ⟨#[]⟩, .string ⟨#[]⟩, .string ⟨#[]⟩, .slice none 0 0] 26)).heap.size = w.heap.size + 1 + 1 := by simp
  obtain ⟨W1, hW1⟩ : ∃ W1 : World, W1 = ((w.alloc (.cells #[.string bo, .int .i64 vk, .int .i64 vi, .string bs, .string bt, .string bn, .slice A l.length c] 26)).alloc (.cells #[.string ⟨#[]⟩, .int .i64 0, .int .i64 0, .string ⟨#[]⟩, .string ⟨#[]⟩, .string ⟨#[]⟩, .slice none 0 0] 26)) := ⟨_, rfl⟩
  rw [← hW1] at q1 p1 hb1 z1
  have HW1 := Lib.hid hW1
  have Q1 := Lib.hid q1
  have P1 := Lib.hid p1
  have B1 := Lib.hid hb1
  have Z1 := Lib.hid z1
  obtain ⟨x0, x1, x2, x3, x4, x5, x6⟩ := q1.cells
  clear hb0 q0 hb1' q1 p1 hb1 z1 zp hW1
  have HC := Lib.hid (HCL.out W1 B1.out)
  have gc := (hg.later B1.out).cell
  clear HCL hcall hg
  go_enter Tryz.func72, Tryz.ntmps72
  go_wp2_with (rw [← HW1.out])
  refine (HC.out).mono ?_
  rintro e w6 ⟨A6, c6, rfl, hs6, b6⟩
  have P6 := Lib.hid (P1.out.later b6)
  have B6 := Lib.hid (bthen B1.out b6)
  have HS6 := Lib.hid hs6
  clear hs6 b6 HC x0 x1 x2 x3 x4 x5 x6 gc
  obtain ⟨y0, y1, y2, y3, y4, y5, y6⟩ := P6.out.cells
  obtain ⟨f0, f1, f2, f3, f4, f5, f6⟩ := P6.out.free
  obtain ⟨W8, hW8, b8, z8, o8, l8⟩ := stored7 P6.out (.string (str fe.op)) (.int .i64 fe.v.k) (.int .i64 fe.v.i) (.string (str fe.v.s)) (.string (str fe.tb)) (.string (str fe.nm)) (.slice A6 fe.l.length c6)
  obtain ⟨k0, k1, k2, k3, k4, k5, k6⟩ := b8.cells
  have HFIN : Hid (Sub (fun b => w.heap.size ≤ b) W8 fe A6 c6 ∧ Below w.heap.size w W8) := ⟨HS6.out.keep (fun b hb _ => ⟨by have h1 : W1.heap.size ≤ b := hb; have h2 := Z1.out; omega, o8 b (by have h1 : W1.heap.size ≤ b := hb; have h2 := Z1.out; omega)⟩) (by rw [z8]; exact Nat.le_refl _), B6.out.trans (l8 w.heap.size (by omega))⟩
  have HW8 := Lib.hid hW8
  clear hW8 b8 z8 o8 l8
  go_wp2_with (rw [← HW8.out])
  exact bodyPost_ret (v := .agg #[.string (str fe.op), .int .i64 fe.v.k, .int .i64 fe.v.i, .string (str fe.v.s), .string (str fe.tb), .string (str fe.nm), .slice A6 fe.l.length c6]) (by simp [results, Tryz.results72, go_sem, k0, k1, k2, k3, k4, k5, k6]) rfl ⟨A6, c6, rfl, HFIN.out⟩
set_option maxRecDepth 100000 in
set_option maxHeartbeats 8000000 in
theorem unbound_any (W : Int) (e : E) : ∀ (x : Value) (S : Nat → Prop) (w : World), EAt S w e x → e.size ≤ 100000 → Calls Tryz.prog 32 #[x, .int .i64 W] w (GivesE w (e.unb W)) := by
  induction e using E.ind with
  | h o v t n l ih =>
    rintro x S w ⟨A, c, rfl, hsub⟩ hsz
    have hlen := len_size l
    simp only [E.size] at hsz
    have HIP := Lib.hid (fun W' (hb : Below w.heap.size w W') => isPlace_any (.mk o v t n l) _ S W' W ⟨A, c, rfl, sub_later hsub hb⟩)
    have HWP := Lib.hid (fun W' (hb : Below w.heap.size w W') (hg : IBox W' (w.heap.size + 1) W) => withParts_any (E.unb W) 72 #[.pointer (some ⟨w.heap.size + 1, 0, none⟩)] (Proofs.enters_of Tryz.func72 (by kernel_rfl) rfl) o v t n l S A c W' (sub_later hsub hb) (by omega) fun p hp x S' W2 hb2 hx => by
      obtain ⟨A', c', rfl, hs'⟩ := hx
      exact unb1_any W (p.unb W) p.op p.v p.tb p.nm p.l A' c' (w.heap.size + 1) W2 (hg.later hb2) fun W3 hb3 => ih p hp _ S' W3 ⟨A', c', rfl, sub_later hs' hb3⟩ (by have := size_mem hp; omega))
    have HAG := Lib.hid (fun w => isAgg_any n w)
    have HLT := Lib.hid (fun w => litG zW w)
    have hmf : ∀ (fn : Fn) (first cap : Array Value) (w : World), (Instr.makeFunc fn first cap).run Tryz.prog w = .ok (.func fn first cap) w := fun _ _ _ _ => rfl
    have HM : Hid (l.map (E.unb W) = E.unbL W l) := (unbL_map W l).symm
    have HUN : Hid ((E.mk o v t n l).unb W = if placeE W (.mk o v t n l) = true then lit v0 else if o = wCol ∨ o = wCall ∧ aggB n = true then e0 else .mk o v t n (E.unbL W l)) := by
      show _ = _
      rw [E.unb]
      simp only [placeE, Bool.and_eq_true, beq_iff_eq]
    have ho : o = wCol ∨ (o ≠ wCol ∧ o = wCall) ∨ (o ≠ wCol ∧ o ≠ wCall) := by
      by_cases h : o = wCol
      · exact .inl h
      · by_cases h' : o = wCall
        · exact .inr (.inl ⟨h, h'⟩)
        · exact .inr (.inr ⟨h, h'⟩)
    have HOC : Hid (o ≠ wCol → ((str o).toList == [99, 111, 108]) = false) := fun h => by rw [Lib.toList_data, str_list]; exact beq_eq_false_iff_ne.2 h
    have HOK : Hid (o ≠ wCall → ((str o).toList == [99, 97, 108, 108]) = false) := fun h => by rw [Lib.toList_data, str_list]; exact beq_eq_false_iff_ne.2 h
    have HOE1 : Hid (o = wCol → str o = ⟨#[99, 111, 108]⟩) := fun h => by rw [h]; rfl
    have HOE2 : Hid (o = wCall → str o = ⟨#[99, 97, 108, 108]⟩) := fun h => by rw [h]; rfl
    simp only [E.op, E.v, E.tb, E.nm, E.l] at HIP ⊢
    have HPE : Hid (∀ A, eVal (E.mk o v t n (E.unbL W l)).op (E.mk o v t n (E.unbL W l)).v (E.mk o v t n (E.unbL W l)).tb (E.mk o v t n (E.unbL W l)).nm A = eVal o v t n A ∧ (E.mk o v t n (E.unbL W l)).l.length = l.length) := fun A => ⟨rfl, by simp [E.l, unbL_map]⟩
    rw [HM.out] at HWP
    generalize (E.mk o v t n l).unb W = ge at *
    generalize placeE W (.mk o v t n l) = pl at *
    generalize E.mk o v t n (E.unbL W l) = fe at *
    unfold GivesE
    simp only [eVal] at HIP HWP HPE ⊢
    generalize hag : aggB n = ag at *
    generalize str o = bo at *
    generalize str t = bt at *
    generalize str n = bn at *
    generalize str v.s = bs at *
    generalize v.k = vk at *
    generalize v.i = vi at *
    have hb0 := (Below.refl w.heap.size w).alloc (Nat.le_refl _) (.cells #[.string bo, .int .i64 vk, .int .i64 vi, .string bs, .string bt, .string bn, .slice A l.length c] 26)
    have q0 := B7.made w (.string bo) (.int .i64 vk) (.int .i64 vi) (.string bs) (.string bt) (.string bn) (.slice A l.length c)
    have q0' := q0.later ((Below.refl _ _).alloc (Nat.le_refl _) (.cells #[.int .i64 W] 3))
    have hb0' := bthen hb0 ((Below.refl _ _).alloc (Nat.le_refl _) (.cells #[.int .i64 W] 3))
    have m0 := heap_alloc_new (w.alloc (.cells #[.string bo, .int .i64 vk, .int .i64 vi, .string bs, .string bt, .string bn, .slice A l.length c] 26)) (.cells #[.int .i64 W] 3)
    have mz : (w.alloc (.cells #[.string bo, .int .i64 vk, .int .i64 vi, .string bs, .string bt, .string bn, .slice A l.length c] 26)).heap.size = w.heap.size + 1 := by simp
    rw [mz] at m0
    have hb1' := (Below.refl ((w.alloc (.cells #[.string bo, .int .i64 vk, .int .i64 vi, .string bs, .string bt, .string bn, .slice A l.length c] 26)).alloc (.cells #[.int .i64 W] 3)).heap.size ((w.alloc (.cells #[.string bo, .int .i64 vk, .int .i64 vi, .string bs, .string bt, .string bn, .slice A l.length c] 26)).alloc (.cells #[.int .i64 W] 3))).alloc (Nat.le_refl _) (.cells #[.string ⟨#[]⟩, .int .i64 0, .int .i64 0, .string ⟨#[]⟩, .string ⟨#[]⟩, .string ⟨#[]⟩, .slice none 0 0] 26)
    have q1 := q0'.later hb1'
    have p1 := B7.made ((w.alloc (.cells #[.string bo, .int .i64 vk, .int .i64 vi, .string bs, .string bt, .string bn, .slice A l.length c] 26)).alloc (.cells #[.int .i64 W] 3)) (.string ⟨#[]⟩) (.int .i64 0) (.int .i64 0) (.string ⟨#[]⟩) (.string ⟨#[]⟩) (.string ⟨#[]⟩) (.slice none 0 0)
    have zp : ((w.alloc (.cells #[.string bo, .int .i64 vk, .int .i64 vi, .string bs, .string bt, .string bn, .slice A l.length c] 26)).alloc (.cells #[.int .i64 W] 3)).heap.size = w.heap.size + 1 + 1 := by simp
    rw [zp] at p1
    have hb1 := bthen hb0' hb1'
    have z1 : (((w.alloc (.cells #[.string bo, .int .i64 vk, .int .i64 vi, .string bs, .string bt, .string bn, .slice A l.length c] 26)).alloc (.cells #[.int .i64 W] 3)).alloc (.cells #[.string ⟨#[]⟩, .int .i64 0, .int .i64 0, .string ⟨#[]⟩, .string ⟨#[]⟩, .string ⟨#[]⟩, .slice none 0 0] 26)).heap.size = w.heap.size + 1 + 1 + 1 := by simp
    have m1 := (hb1'.block (w.heap.size + 1) (by rw [zp]; omega)).trans m0
    obtain ⟨W1, hW1⟩ : ∃ W1 : World, W1 = (((w.alloc (.cells #[.string bo, .int .i64 vk, .int .i64 vi, .string bs, .string bt, .string bn, .slice A l.length c] 26)).alloc (.cells #[.int .i64 W] 3)).alloc (.cells #[.string ⟨#[]⟩, .int .i64 0, .int .i64 0, .string ⟨#[]⟩, .string ⟨#[]⟩, .string ⟨#[]⟩, .slice none 0 0] 26)) := ⟨_, rfl⟩
    rw [← hW1] at q1 p1 hb1 z1 m1
    have HW1 := Lib.hid hW1
    have Q1 := Lib.hid q1
    have P1 := Lib.hid p1
    have B1 := Lib.hid hb1
    have Z1 := Lib.hid z1
    have M1 := Lib.hid m1
    obtain ⟨x0, x1, x2, x3, x4, x5, x6⟩ := q1.cells
    clear hb0 q0 hb1' q1 p1 hb1 z1 zp hW1 q0' hb0' m0 mz m1
    have HIP' := Lib.hid (HIP.out W1 B1.out)
    have gc := IBox.cell (show IBox W1 (w.heap.size + 1) W from M1.out)
    clear HIP ih hsub hsz hlen HM hag
    go_enter Tryz.func32, Tryz.ntmps32
    go_wp2_with (rw [← HW1.out])
    refine (HIP'.out).mono ?_
    rintro e w2 ⟨rfl, b2⟩
    have q2 := Q1.out.later b2
    have P2 := Lib.hid (P1.out.later b2)
    have B2 := Lib.hid (bthen B1.out b2)
    have M2 := Lib.hid ((show IBox W1 (w.heap.size + 1) W from M1.out).later b2)
    have Z2 : Hid (W1.heap.size ≤ w2.heap.size) := b2.size
    have HWP' := Lib.hid (HWP.out w2 B2.out M2.out)
    clear b2 x0 x1 x2 x3 x4 x5 x6 gc HIP' HWP
    obtain ⟨x0, x1, x2, x3, x4, x5, x6⟩ := q2.cells
    clear q2
    cases pl
    · rcases ho with ho | ⟨h1, ho⟩ | ⟨h1, h2⟩
      · obtain rfl := (HOE1.out ho)
        have hge := HUN.out
        rw [if_neg (by simp), if_pos (by exact .inl ho)] at hge
        subst hge
        obtain ⟨k0, k1, k2, k3, k4, k5, k6⟩ := P2.out.cells
        obtain ⟨f0, f1, f2, f3, f4, f5, f6⟩ := P2.out.free
        obtain ⟨W8, hW8, b8, z8, o8, l8⟩ := stored7 P2.out (.string ⟨#[]⟩) (.int .i64 0) (.int .i64 0) (.string ⟨#[]⟩) (.string ⟨#[]⟩) (.string ⟨#[]⟩) (.slice none 0 0)
        obtain ⟨n0, n1, n2, n3, n4, n5, n6⟩ := b8.cells
        have HB8 := Lib.hid (B2.out.trans (l8 w.heap.size (by omega)))
        have HW8 := Lib.hid hW8
        clear hW8 b8 z8 o8 l8
        go_wp2_with (first | (rw [← HW8.out]) | fail)
        first
        | exact bodyPost_ret (v := .agg #[.string ⟨#[]⟩, .int .i64 0, .int .i64 0, .string ⟨#[]⟩, .string ⟨#[]⟩, .string ⟨#[]⟩, .slice none 0 0]) (by simp [results, Tryz.results32, go_sem, n0, n1, n2, n3, n4, n5, n6]) rfl ⟨none, 0, rfl, sub_none _ _ _ _ _ _, HB8.out⟩
        | exact bodyPost_ret (v := .agg #[.string ⟨#[]⟩, .int .i64 0, .int .i64 0, .string ⟨#[]⟩, .string ⟨#[]⟩, .string ⟨#[]⟩, .slice none 0 0]) (by simp [results, Tryz.results32, go_sem, k0, k1, k2, k3, k4, k5, k6]) rfl ⟨none, 0, rfl, sub_none _ _ _ _ _ _, B2.out⟩
      · have m1 := HOC.out h1
        obtain rfl := (HOE2.out ho)
        cases ag
        · skip
          have hge := HUN.out
          rw [if_neg (by simp), if_neg (by rintro (h | ⟨-, h⟩) <;> first | exact h1 h | exact absurd h (by simp))] at hge
          subst hge
          have HPOST : Hid (ge.l.length = l.length ∧ ∀ A, Value.agg #[.string (str ge.op), .int .i64 ge.v.k, .int .i64 ge.v.i, .string (str ge.v.s), .string (str ge.tb), .string (str ge.nm), A] = .agg #[.string ⟨#[99, 97, 108, 108]⟩, .int .i64 vk, .int .i64 vi, .string bs, .string bt, .string bn, A]) := ⟨(HPE.out (.int .i64 0)).2, fun A => (HPE.out A).1⟩
          clear HUN HPE
          go_wp2_with (go_at_call 71; refine (HAG.out _).mono ?_; rintro e w5 ⟨rfl, rfl⟩)
          refine (HWP'.out).mono ?_
          rintro e w6 ⟨A6, c6, rfl, hs6, b6⟩
          have P6 := Lib.hid (P2.out.later b6)
          have B6 := Lib.hid (bthen B2.out b6)
          have HS6 := Lib.hid (hs6.keep (S' := fun b => W1.heap.size ≤ b) (fun b hb _ => ⟨Nat.le_trans Z2.out hb, rfl⟩) (Nat.le_refl _))
          clear hs6 b6 x0 x1 x2 x3 x4 x5 x6
          obtain ⟨y0, y1, y2, y3, y4, y5, y6⟩ := P6.out.cells
          obtain ⟨f0, f1, f2, f3, f4, f5, f6⟩ := P6.out.free
          obtain ⟨W8, hW8, b8, z8, o8, l8⟩ := stored7 P6.out (.string ⟨#[99, 97, 108, 108]⟩) (.int .i64 vk) (.int .i64 vi) (.string bs) (.string bt) (.string bn) (.slice A6 l.length c6)
          obtain ⟨k0, k1, k2, k3, k4, k5, k6⟩ := b8.cells
          have HFIN : Hid (Sub (fun b => w.heap.size ≤ b) W8 ge A6 c6 ∧ Below w.heap.size w W8) := ⟨HS6.out.keep (fun b hb _ => ⟨by have h1 : W1.heap.size ≤ b := hb; have h2 := Z1.out; omega, o8 b (by have h1 : W1.heap.size ≤ b := hb; have h2 := Z1.out; omega)⟩) (by rw [z8]; exact Nat.le_refl _), B6.out.trans (l8 w.heap.size (by omega))⟩
          have HW8 := Lib.hid hW8
          clear hW8 b8 z8 o8 l8
          go_wp2_with (rw [← HW8.out])
          exact bodyPost_ret (v := .agg #[.string ⟨#[99, 97, 108, 108]⟩, .int .i64 vk, .int .i64 vi, .string bs, .string bt, .string bn, .slice A6 l.length c6]) (by simp [results, Tryz.results32, go_sem, k0, k1, k2, k3, k4, k5, k6]) rfl ⟨A6, c6, by rw [HPOST.out.1, HPOST.out.2], HFIN.out⟩
        · skip
          have hge := HUN.out
          rw [if_neg (by simp), if_pos (by exact .inr ⟨ho, rfl⟩)] at hge
          subst hge
          obtain ⟨k0, k1, k2, k3, k4, k5, k6⟩ := P2.out.cells
          obtain ⟨f0, f1, f2, f3, f4, f5, f6⟩ := P2.out.free
          obtain ⟨W8, hW8, b8, z8, o8, l8⟩ := stored7 P2.out (.string ⟨#[]⟩) (.int .i64 0) (.int .i64 0) (.string ⟨#[]⟩) (.string ⟨#[]⟩) (.string ⟨#[]⟩) (.slice none 0 0)
          obtain ⟨n0, n1, n2, n3, n4, n5, n6⟩ := b8.cells
          have HB8 := Lib.hid (B2.out.trans (l8 w.heap.size (by omega)))
          have HW8 := Lib.hid hW8
          clear hW8 b8 z8 o8 l8
          go_wp2_with (first | (rw [← HW8.out]) | (go_at_call 71; refine (HAG.out _).mono ?_; rintro e w5 ⟨rfl, rfl⟩))
          first
          | exact bodyPost_ret (v := .agg #[.string ⟨#[]⟩, .int .i64 0, .int .i64 0, .string ⟨#[]⟩, .string ⟨#[]⟩, .string ⟨#[]⟩, .slice none 0 0]) (by simp [results, Tryz.results32, go_sem, n0, n1, n2, n3, n4, n5, n6]) rfl ⟨none, 0, rfl, sub_none _ _ _ _ _ _, HB8.out⟩
          | exact bodyPost_ret (v := .agg #[.string ⟨#[]⟩, .int .i64 0, .int .i64 0, .string ⟨#[]⟩, .string ⟨#[]⟩, .string ⟨#[]⟩, .slice none 0 0]) (by simp [results, Tryz.results32, go_sem, k0, k1, k2, k3, k4, k5, k6]) rfl ⟨none, 0, rfl, sub_none _ _ _ _ _ _, B2.out⟩
      · have m1 := HOC.out h1
        have m2 := HOK.out h2
        · skip
          have hge := HUN.out
          rw [if_neg (by simp), if_neg (by rintro (h | ⟨h, -⟩) <;> contradiction)] at hge
          subst hge
          have HPOST : Hid (ge.l.length = l.length ∧ ∀ A, Value.agg #[.string (str ge.op), .int .i64 ge.v.k, .int .i64 ge.v.i, .string (str ge.v.s), .string (str ge.tb), .string (str ge.nm), A] = .agg #[.string bo, .int .i64 vk, .int .i64 vi, .string bs, .string bt, .string bn, A]) := ⟨(HPE.out (.int .i64 0)).2, fun A => (HPE.out A).1⟩
          clear HUN HPE
          go_wp2_with (fail)
          refine (HWP'.out).mono ?_
          rintro e w6 ⟨A6, c6, rfl, hs6, b6⟩
          have P6 := Lib.hid (P2.out.later b6)
          have B6 := Lib.hid (bthen B2.out b6)
          have HS6 := Lib.hid (hs6.keep (S' := fun b => W1.heap.size ≤ b) (fun b hb _ => ⟨Nat.le_trans Z2.out hb, rfl⟩) (Nat.le_refl _))
          clear hs6 b6 x0 x1 x2 x3 x4 x5 x6
          obtain ⟨y0, y1, y2, y3, y4, y5, y6⟩ := P6.out.cells
          obtain ⟨f0, f1, f2, f3, f4, f5, f6⟩ := P6.out.free
          obtain ⟨W8, hW8, b8, z8, o8, l8⟩ := stored7 P6.out (.string bo) (.int .i64 vk) (.int .i64 vi) (.string bs) (.string bt) (.string bn) (.slice A6 l.length c6)
          obtain ⟨k0, k1, k2, k3, k4, k5, k6⟩ := b8.cells
          have HFIN : Hid (Sub (fun b => w.heap.size ≤ b) W8 ge A6 c6 ∧ Below w.heap.size w W8) := ⟨HS6.out.keep (fun b hb _ => ⟨by have h1 : W1.heap.size ≤ b := hb; have h2 := Z1.out; omega, o8 b (by have h1 : W1.heap.size ≤ b := hb; have h2 := Z1.out; omega)⟩) (by rw [z8]; exact Nat.le_refl _), B6.out.trans (l8 w.heap.size (by omega))⟩
          have HW8 := Lib.hid hW8
          clear hW8 b8 z8 o8 l8
          go_wp2_with (rw [← HW8.out])
          exact bodyPost_ret (v := .agg #[.string bo, .int .i64 vk, .int .i64 vi, .string bs, .string bt, .string bn, .slice A6 l.length c6]) (by simp [results, Tryz.results32, go_sem, k0, k1, k2, k3, k4, k5, k6]) rfl ⟨A6, c6, by rw [HPOST.out.1, HPOST.out.2], HFIN.out⟩
    · have hge := HUN.out
      rw [if_pos rfl] at hge
      have HL := Lib.hid (HLT.out w2)
      rw [show lit (ofV zW) = ge by rw [hge]; rfl] at HL
      unfold GivesE at HL
      simp only [eVal] at HL
      clear HUN hge HPE
      simp only [zW] at HL
      go_wp2_with fail
      refine (HL.out).mono ?_
      rintro e w6 ⟨A6, c6, rfl, hs6, b6⟩
      have P6 := Lib.hid (P2.out.later b6)
      have B6 := Lib.hid (bthen B2.out b6)
      have HS6 := Lib.hid (hs6.keep (S' := fun b => W1.heap.size ≤ b) (fun b hb _ => ⟨Nat.le_trans Z2.out hb, rfl⟩) (Nat.le_refl _))
      clear hs6 b6 x0 x1 x2 x3 x4 x5 x6
      obtain ⟨y0, y1, y2, y3, y4, y5, y6⟩ := P6.out.cells
      obtain ⟨f0, f1, f2, f3, f4, f5, f6⟩ := P6.out.free
      obtain ⟨W8, hW8, b8, z8, o8, l8⟩ := stored7 P6.out (.string (str ge.op)) (.int .i64 ge.v.k) (.int .i64 ge.v.i) (.string (str ge.v.s)) (.string (str ge.tb)) (.string (str ge.nm)) (.slice A6 ge.l.length c6)
      obtain ⟨k0, k1, k2, k3, k4, k5, k6⟩ := b8.cells
      have HFIN : Hid (Sub (fun b => w.heap.size ≤ b) W8 ge A6 c6 ∧ Below w.heap.size w W8) := ⟨HS6.out.keep (fun b hb _ => ⟨by have h1 : W1.heap.size ≤ b := hb; have h2 := Z1.out; omega, o8 b (by have h1 : W1.heap.size ≤ b := hb; have h2 := Z1.out; omega)⟩) (by rw [z8]; exact Nat.le_refl _), B6.out.trans (l8 w.heap.size (by omega))⟩
      have HW8 := Lib.hid hW8
      clear hW8 b8 z8 o8 l8
      go_wp2_with (rw [← HW8.out])
      exact bodyPost_ret (v := .agg #[.string (str ge.op), .int .i64 ge.v.k, .int .i64 ge.v.i, .string (str ge.v.s), .string (str ge.tb), .string (str ge.nm), .slice A6 ge.l.length c6]) (by simp [results, Tryz.results32, go_sem, k0, k1, k2, k3, k4, k5, k6]) rfl ⟨A6, c6, rfl, HFIN.out⟩
theorem deep_sizeE (e : E) : e.deep ≤ e.size := by
  induction e using E.ind with
  | h o v t n l ih =>
    simp only [E.deep, E.size]
    suffices E.deepL l ≤ E.sizeL l by omega
    clear o v t n
    induction l with
    | nil => simp [E.deepL, E.sizeL]
    | cons x l ihl =>
      have h1 := ih x (by simp)
      have h2 := ihl fun y hy => ih y (by simp [hy])
      simp only [E.deepL, E.sizeL]
      omega
theorem unb_sn (W : Int) (e : E) : e.sn = true → (e.unb W).sn = true := by
  induction e using E.ind with
  | h o v t n l ih =>
    intro h
    simp only [E.sn, Bool.and_eq_true, decide_eq_true_eq] at h
    rw [E.unb]
    split
    · rfl
    · split
      · rfl
      · simp only [E.sn, Bool.and_eq_true, decide_eq_true_eq]
        refine ⟨h.1, ?_⟩
        rw [unbL_map]
        exact snL_iff.2 fun y hy => by
          obtain ⟨x, hx, rfl⟩ := List.mem_map.1 hy
          exact ih x hx (snL_iff.1 h.2 x hx)
theorem unb_deep_le (W : Int) (e : E) : (e.unb W).deep ≤ e.deep := by
  induction e using E.ind with
  | h o v t n l ih =>
    have hl : E.deepL (E.unbL W l) ≤ E.deepL l := by
      clear o v t n
      induction l with
      | nil => simp [E.unbL]
      | cons a l ihl =>
        have h1 := ih a (by simp)
        have h2 := ihl fun x hx => ih x (by simp [hx])
        simp only [E.unbL, E.deepL]
        omega
    rw [E.unb]
    split
    · simp [lit, E.deep, E.deepL]
    · split
      · simp [e0, E.deep, E.deepL]
      · simp only [E.deep]; omega
theorem chk_unb (W : Int) (e : E) : chkE (e.unb W) = chkW W e := by
  unfold chkE chkW
  rw [unb_may]
  cases h : e.good W
  · rfl
  · simp only [if_true, unb_deep W e h]
set_option maxRecDepth 100000 in
set_option maxHeartbeats 4000000 in
theorem check_any (W : Int) (e : E) (x : Value) (S : Nat → Prop) (w : World) (hx : EAt S w e x) (hsz : e.size ≤ 100000) (hsn : e.sn = true) : Calls Tryz.prog 12 #[x, .int .i64 W] w fun q w' => q = .returned (.int .i64 (chkW W e)) ∧ Below w.heap.size w w' := by
  have HU := Lib.hid (fun W1 (hb : Below w.heap.size w W1) => unbound_any W e x S W1 (hx.later hb) hsz)
  have HC := Lib.hid (fun (y : Value) (S : Nat → Prop) W1 (hy : EAt S W1 (e.unb W) y) => eCheck_any (e.unb W) y S W1 hy (unb_sn W e hsn) (by have h1 := unb_deep_le W e; have h2 := deep_sizeE e; omega))
  rw [chk_unb] at HC
  obtain ⟨s0, i1, i2, s3, s4, s5, A, n, c, rfl⟩ := hx.agg
  obtain ⟨W1, hW1, q1, z1, r1⟩ := box7 w (.string s0) (.int .i64 i1) (.int .i64 i2) (.string s3) (.string s4) (.string s5) (.slice A n c)
  have HU1 := Lib.hid (HU.out W1 r1)
  obtain ⟨a0, a1, a2, a3, a4, a5, a6⟩ := q1.cells
  have HW1 := Lib.hid hW1
  have B1 := Lib.hid r1
  unfold GivesE at HU1
  generalize e.unb W = fe at *
  generalize chkW W e = ck at *
  clear hW1 q1 r1 hx HU z1
  go_enter Tryz.func12, Tryz.ntmps12
  go_wp2_with (rw [← HW1.out])
  refine (HU1.out).mono ?_
  rintro q w2 ⟨A2, c2, rfl, hs2, b2⟩
  have HC2 := Lib.hid (HC.out _ _ w2 ⟨A2, c2, rfl, hs2⟩)
  have B2 := Lib.hid (bthen B1.out b2)
  simp only [eVal] at HC2 ⊢
  clear hs2 b2 a0 a1 a2 a3 a4 a5 a6 HC HU1
  go_wp2_with fail
  refine (HC2.out).mono ?_
  rintro q w3 ⟨rfl, b3⟩
  have B3 := Lib.hid (bthen B2.out b3)
  clear b3
  go_wp2_with fail
  go_ret
  exact ⟨rfl, B3.out⟩
end Go.Proofs.YtcmbdghbicjljaaGreatDoor
