/- Values that a call owns, one behind the other; more values behind them. No condition. -/
import Derived.Test.YtcmbdghbicjljaaGreatDoorQ23
import Derived.Deep.Upon
import Derived.Lib.SlFresh
import Derived.Lib.SliceRun
import Derived.Maps.AppendAt
import Derived.Test.YtcmbdghbicjljaaGreatDoorQ42
import Derived.Test.YtcmbdghbicjljaaGreatDoorQ28
set_option linter.unusedSimpArgs false
set_option linter.unusedVariables false
namespace Go.Proofs.YtcmbdghbicjljaaGreatDoor
open Go.RowKit
theorem infoV : (Tryz.prog.info? 23).map (fun i => (i.zero, i.size, i.bytes)) = some (some (.agg #[.int .i64 0, .int .i64 0, .string ⟨#[]⟩]), 3, 32) := by kernel_rfl
theorem infoVp : ∃ i, Tryz.prog.info? 23 = some i ∧ i.zero = some (.agg #[.int .i64 0, .int .i64 0, .string ⟨#[]⟩]) ∧ i.size = 3 ∧ i.bytes = 32 := by
  cases hq : Tryz.prog.info? 23 with
  | none => have h := infoV; rw [hq] at h; cases h
  | some i =>
    have h := infoV
    rw [hq] at h
    simp only [Option.map_some, Option.some.injEq, Prod.mk.injEq] at h
    exact ⟨i, rfl, h.1, h.2.1, h.2.2⟩
def OwnV (w : World) (B : Nat) (v : Value) (xs : List BV.V) : Prop := w.ownsRow B 23 3 v xs.length (BV.flat xs)
theorem OwnV.nil (w : World) (B : Nat) : OwnV w B (.slice none 0 0) [] := World.ownsRow_nil w B 23 3
theorem OwnV.row {w : World} {B : Nat} {v : Value} {xs : List BV.V} (h : OwnV w B v xs) : ∃ A c, v = .slice A xs.length c ∧ xs.length ≤ c ∧ c ≤ maxLen ∧ BV.RowAt w w.heap.size A xs := by
  rcases h.2 with ⟨hv, h0⟩ | ⟨g, cap, cur, hv, _, hg, hn, hm, _⟩
  · exact ⟨none, 0, by rw [hv, h0], by omega, by decide, fun h => by omega⟩
  · exact ⟨_, cap, hv, hn, hm, BV.RowAt.of_flat (h.cells (g := g) (by rw [hv]; rfl)) (Array.getElem?_eq_some_iff.1 hg).1⟩
theorem OwnV.shape {w : World} {B : Nat} {v : Value} {xs : List BV.V} (h : OwnV w B v xs) : ∃ A c, v = .slice A xs.length c ∧ xs.length ≤ c := by
  obtain ⟨A, c, hv, hc, -⟩ := h.row
  exact ⟨A, c, hv, hc⟩
theorem OwnV.later {w w' : World} {B : Nat} {v : Value} {xs : List BV.V} (h : OwnV w B v xs) (hb : Below w.heap.size w w') : OwnV w' B v xs :=
  h.kept (row := none) ⟨hb.os, hb.tape, hb.output, hb.size, fun k hk _ => hb.block k hk⟩ (by cases v.ownBlock <;> simp)
theorem OwnV.alloc {w : World} {B : Nat} {v : Value} {xs : List BV.V} (h : OwnV w B v xs) (o : Obj) : OwnV (w.alloc o) B v xs := h.later ((Below.refl _ _).alloc (Nat.le_refl _) o)
theorem OwnV.block {w : World} {B : Nat} {v : Value} {xs : List BV.V} {k : Nat} (h : OwnV w B v xs) (hk : v.ownBlock = some k) : B ≤ k ∧ k < w.heap.size := h.lt k hk
theorem flatV_append (xs ys : List BV.V) : BV.flat (xs ++ ys) = BV.flat xs ++ BV.flat ys := by unfold BV.flat; rw [List.flatMap_append]
set_option maxRecDepth 100000 in
theorem ownV_app {w : World} {B : Nat} {v : Value} {xs : List BV.V} (t ty : TypeId) (ht : Tryz.prog.underlying t = some (.slice 23)) (hown : OwnV w B v xs) (ys : List BV.V) (A : Option Addr) (c : Nat) (hr : BV.RowAt w w.heap.size A ys) (hm : xs.length + ys.length ≤ 10000000) (hB : B ≤ w.heap.size) :
    ∃ v' w', (Builtin.append_ #[t, t] ty #[v, .slice A ys.length c]).run Tryz.prog w = .ok v' w' ∧ OwnV w' B v' (xs ++ ys) ∧ w.grownBy w' v.ownBlock ∧ (v'.ownBlock = v.ownBlock ∨ v'.ownBlock = some w.heap.size) := by
  obtain ⟨i0, hi, hz0, hz1, hz2⟩ := infoVp
  rcases Nat.eq_zero_or_pos ys.length with h0 | h0
  · have hx := List.eq_nil_of_length_eq_zero h0
    subst hx
    obtain ⟨A', c', rfl, hn⟩ := hown.shape
    refine ⟨.slice A' xs.length c', w, run_append_nothing (P := Tryz.prog) w t t ty 23 i0 ht hi A' xs.length c' hn _ ?_, by simpa using hown, ?_, Or.inl rfl⟩
    · cases A with
      | none => exact Src.ofNil w ht c
      | some a => exact Src.ofSlice w ht a 0 c [] (by simp) (by intro j u h; simp at h) (by simp)
    · exact ⟨rfl, rfl, rfl, Nat.le_refl _, fun _ _ _ => rfl⟩
  · obtain ⟨b, off, rfl, -, -⟩ := hr h0
    obtain ⟨v', w', h1, h2, h3, -, h5⟩ := run_append_own_at (P := Tryz.prog) w B t ty 23 i0 _ 3 32 ht hi hz0 hz1 hz2 rfl (by decide) v xs.length (BV.flat xs) hown ⟨b, off, none⟩ ys.length c (BV.flat ys) (by rw [BV.flat_len]) hr.flat (BV.flat_one ys) (by unfold maxLen; omega) (by omega) hB
    refine ⟨v', w', h1, ?_, h3, h5⟩
    unfold OwnV
    rw [List.length_append, flatV_append]
    exact h2
theorem ownV_below {w0 w w' : World} {B : Nat} {v : Value} {xs : List BV.V} (hb : Below B w0 w) (hown : OwnV w B v xs) (hg : w.grownBy w' v.ownBlock) (hB : B ≤ w.heap.size) : Below B w0 w' :=
  hb.grown hg hB (fun k hk => (hown.lt k hk).1)
theorem step_append_runV {ops : Array Oper} (w : World) {o : Oper} {a : Act} {K : Act → World → Prop} {Q : Exit → Act → World → Prop} {E : Prop} (hgd : o.guard = none) (s x : Operand) (t u : TypeId)
    (ho : o.op = .call { callee := .builtin .append, args := #[s, x], argTypes := #[t, u] }) (v y : Value) (hs : a.eval s = v) (hx : a.eval x = y) {v' : Value} {w' : World}
    (hr : (Builtin.append_ #[t, u] o.type #[v, y]).run Tryz.prog w = .ok v' w') (h : K (a.put o.dst v') w') : if Region.wanted o (yielded ops a.tmps) = true then Oper.wp Tryz.prog o a w K Q else E := by
  have hw : Region.wanted o (yielded ops a.tmps) = true := by simp [Region.wanted, hgd]
  rw [if_pos hw]
  unfold Oper.wp execOp
  simp only [ho, resolve, invoke, builtin, Sem.run_bind, Sem.run_pure, Result.andThen_ok, List.map_toArray, List.map_cons, List.map_nil, hs, hx, hr]
  exact h
end Go.Proofs.YtcmbdghbicjljaaGreatDoor
namespace Go.Proofs.YtcmbdghbicjljaaGreatDoor
open Go.RowKit
theorem mvL_size (b : Int) (l : List E) (ih : ∀ x ∈ l, (x.mv b).size = x.size) : E.sizeL (E.mvL b l) = E.sizeL l := by
  induction l with
  | nil => rfl
  | cons a l ihl =>
    have h1 := ih a (by simp)
    have h2 := ihl fun x hx => ih x (by simp [hx])
    simp only [E.mvL, E.sizeL]
    omega
theorem mv_size (b : Int) (e : E) : (e.mv b).size = e.size := by
  induction e using E.ind with
  | h o v t n l ih =>
    rw [E.mv]
    split
    · rfl
    · have hl := mvL_size b l ih
      simp only [E.size, hl]
theorem wrap_in64 (i : Int) : -9223372036854775808 ≤ wrap64 i ∧ wrap64 i ≤ 9223372036854775807 := by unfold wrap64; omega
theorem mv_fit (d : Deeds) (a r : List BV.V) (hs : a.length + r.length ≤ 1000000) (e : E) : e.good r.length = true → e.fit d r → (e.mv a.length).fit d (a ++ r) := by
  induction e using E.ind with
  | h o v t n l ih =>
    intro hg hf
    obtain ⟨h1, h2, h3⟩ := hf
    by_cases ho : o = wAt
    · rw [E.mv, if_pos ho]
      subst ho
      obtain ⟨-, -, -, -, -, -, rfl⟩ := good_at hg
      exact ⟨h1, wrap_in64 _, trivial⟩
    · rw [E.mv, if_neg ho]
      have hp := good_parts hg
      refine ⟨by rw [mvL_map, List.length_map]; exact h1, h2, fitL_iff.2 fun y hy => ?_⟩
      rw [mvL_map] at hy
      obtain ⟨x, hx, rfl⟩ := List.mem_map.1 hy
      have a1 := fitL_iff.1 h3 x hx
      exact ⟨ih x hx (hp x hx) a1.1, by rw [mv_ev d a r hs x (hp x hx)]; exact a1.2⟩
structure Movable (e : E) (a r : List BV.V) : Prop where
  size : e.size ≤ 100000
  msize : (e.mv a.length).size ≤ 100000
  rfit : e.fit deedP r
  mfit : (e.mv a.length).fit deedP (a ++ r)
  mev : (e.mv a.length).ev deedP (a ++ r) = e.ev deedP r
  back : (e.mv a.length).mv (-(a.length : Int)) = e
theorem mov_facts {e : E} {a r : List BV.V} (hk : okE e = true) (hc : chkW r.length e = 0) (hin : e.ints = true) (hx : ∀ v ∈ r, (-9223372036854775808 ≤ v.i ∧ v.i ≤ 9223372036854775807) ∧ v.s.size ≤ 100000) (hl : a.length + r.length ≤ 1000000) : Movable e a r := by
  obtain ⟨h1, h2⟩ := ok_size hk
  have hg := chkW_ok.1 hc
  have hlt := light_lt e h2
  have fx := ev_fit deeds_small hx e (by omega) hin hlt
  exact ⟨by omega, by rw [mv_size]; omega, fx.1, mv_fit _ _ _ hl e hg.1 fx.1, mv_ev _ _ _ hl e hg.1, mv_back _ e hin⟩
end Go.Proofs.YtcmbdghbicjljaaGreatDoor
namespace Go.Proofs.YtcmbdghbicjljaaGreatDoor
open Go.RowKit
set_option maxRecDepth 100000 in
set_option maxHeartbeats 4000000 in
theorem mv1_any (W0 : Int) (fe : E) (o : List UInt8) (v : Vl) (t n : List UInt8) (l : List E) (A : Option Addr) (c g : Nat) (w : World) (hg : IBox w g W0) (hcall : ∀ W, Below w.heap.size w W → Calls Tryz.prog 16 #[eVal o v t n (.slice A l.length c), .int .i64 W0] W (GivesE W fe)) :
    Calls Tryz.prog 38 #[eVal o v t n (.slice A l.length c), .pointer (some ⟨g, 0, none⟩)] w (GivesE w fe) := by
  have HCL := Lib.hid hcall
  unfold GivesE at *
  simp only [eVal] at HCL ⊢
  generalize str o = bo at *
  generalize str t = bt at *
  generalize str n = bn at *
  generalize str v.s = bs at *
  generalize v.k = vk at *
  generalize v.i = vi at *
  have hb0 := (Below.refl w.heap.size w).alloc (Nat.le_refl _) (.cells #[.string bo, .int .i64 vk, .int .i64 vi, .string bs, .string bt, .string bn, .slice A l.length c] 26)
  have q0 := B7.made w (.string bo) (.int .i64 vk) (.int .i64 vi) (.string bs) (.string bt) (.string bn) (.slice A l.length c)
  have hb1' := (Below.refl (w.alloc (.cells #[.string bo, .int .i64 vk, .int .i64 vi, .string bs, .string bt, .string bn, .slice A l.length c] 26)).heap.size (w.alloc (.cells #[.string bo, .int .i64 vk, .int .i64 vi, .string bs, .string bt, .string bn, .slice A l.length c] 26))).alloc (Nat.le_refl _) (.cells #[.string ⟨#[]⟩, .int .i64 0, .int .i64 0, .string ⟨#[]⟩, .string ⟨#[]⟩, .string ⟨#[]⟩, .slice none 0 0] 26)
  have q1 := q0.later hb1'
  have p1 := B7.made (w.alloc (.cells #[.string bo, .int .i64 vk, .int .i64 vi, .string bs, .string bt, .string bn, .slice A l.length c] 26)) (.string ⟨#[]⟩) (.int .i64 0) (.int .i64 0) (.string ⟨#[]⟩) (.string ⟨#[]⟩) (.string ⟨#[]⟩) (.slice none 0 0)
  have zp : (w.alloc (.cells #[.string bo, .int .i64 vk, .int .i64 vi, .string bs, .string bt, .string bn, .slice A l.length c] 26)).heap.size = w.heap.size + 1 := by simp
  rw [zp] at p1
  have hb1 := bthen hb0 hb1'
  have z1 : ((w.alloc (.cells #[.string bo, .int .i64 vk, .int .i64 vi, .string bs, .string bt, .string bn, .slice A l.length c] 26)).alloc (.cells #[.string ⟨#[]⟩, .int .i64 0, .int .i64 0, .string ⟨#[]⟩, .string ⟨#[]⟩, .string ⟨#[]⟩, .slice none 0 0] 26)).heap.size = w.heap.size + 1 + 1 := by simp
  obtain ⟨W1, hW1⟩ : ∃ W1 : World, W1 = ((w.alloc (.cells #[.string bo, .int .i64 vk, .int .i64 vi, .string bs, .string bt, .string bn, .slice A l.length c] 26)).alloc (.cells #[.string ⟨#[]⟩, .int .i64 0, .int .i64 0, .string ⟨#[]⟩, .string ⟨#[]⟩, .string ⟨#[]⟩, .slice none 0 0] 26)) := ⟨_, rfl⟩
  rw [← hW1] at q1 p1 hb1 z1
  have HW1 := Lib.hid hW1
  have Q1 := Lib.hid q1
  have P1 := Lib.hid p1
  have B1 := Lib.hid hb1
  have Z1 := Lib.hid z1
  obtain ⟨x0, x1, x2, x3, x4, x5, x6⟩ := q1.cells
  clear hb0 q0 hb1' q1 p1 hb1 z1 zp hW1
  have HC := Lib.hid (HCL.out W1 B1.out)
  have gc := (hg.later B1.out).cell
  clear HCL hcall hg
  go_enter Tryz.func38, Tryz.ntmps38
  go_wp2_with (rw [← HW1.out])
  refine (HC.out).mono ?_
  rintro e w6 ⟨A6, c6, rfl, hs6, b6⟩
  have P6 := Lib.hid (P1.out.later b6)
  have B6 := Lib.hid (bthen B1.out b6)
  have HS6 := Lib.hid hs6
  clear hs6 b6 HC x0 x1 x2 x3 x4 x5 x6 gc
  obtain ⟨y0, y1, y2, y3, y4, y5, y6⟩ := P6.out.cells
  obtain ⟨f0, f1, f2, f3, f4, f5, f6⟩ := P6.out.free
  obtain ⟨W8, hW8, b8, z8, o8, l8⟩ := stored7 P6.out (.string (str fe.op)) (.int .i64 fe.v.k) (.int .i64 fe.v.i) (.string (str fe.v.s)) (.string (str fe.tb)) (.string (str fe.nm)) (.slice A6 fe.l.length c6)
  obtain ⟨k0, k1, k2, k3, k4, k5, k6⟩ := b8.cells
  have HFIN : Hid (Sub (fun b => w.heap.size ≤ b) W8 fe A6 c6 ∧ Below w.heap.size w W8) := ⟨HS6.out.keep (fun b hb _ => ⟨by have h1 : W1.heap.size ≤ b := hb; have h2 := Z1.out; omega, o8 b (by have h1 : W1.heap.size ≤ b := hb; have h2 := Z1.out; omega)⟩) (by rw [z8]; exact Nat.le_refl _), B6.out.trans (l8 w.heap.size (by omega))⟩
  have HW8 := Lib.hid hW8
  clear hW8 b8 z8 o8 l8
  go_wp2_with (rw [← HW8.out])
  exact bodyPost_ret (v := .agg #[.string (str fe.op), .int .i64 fe.v.k, .int .i64 fe.v.i, .string (str fe.v.s), .string (str fe.tb), .string (str fe.nm), .slice A6 fe.l.length c6]) (by simp [results, Tryz.results38, go_sem, k0, k1, k2, k3, k4, k5, k6]) rfl ⟨A6, c6, rfl, HFIN.out⟩
set_option maxRecDepth 100000 in
set_option maxHeartbeats 8000000 in
theorem move_any (W : Int) (e : E) : ∀ (x : Value) (S : Nat → Prop) (w : World), EAt S w e x → e.size ≤ 100000 → Calls Tryz.prog 16 #[x, .int .i64 W] w (GivesE w (e.mv W)) := by
  induction e using E.ind with
  | h o v t n l ih =>
    rintro x S w ⟨A, c, rfl, hsub⟩ hsz
    have hlen := len_size l
    have hsz0 := hsz
    simp only [E.size] at hsz
    obtain ⟨W1, hW1, q1, z1, r1⟩ := box7 w (.string (str o)) (.int .i64 v.k) (.int .i64 v.i) (.string (str v.s)) (.string (str t)) (.string (str n)) (.slice A l.length c)
    obtain ⟨W2, hW2⟩ : ∃ W2 : World, W2 = W1.alloc (.cells #[.int .i64 W] 3) := ⟨_, rfl⟩
    have hg : IBox W2 W1.heap.size W := by rw [hW2]; exact heap_alloc_new W1 _
    have r2 : Below W1.heap.size W1 W2 := by rw [hW2]; exact (Below.refl _ _).alloc (Nat.le_refl _) _
    have z2 : W2.heap.size = W1.heap.size + 1 := by rw [hW2]; simp
    obtain ⟨W3, hW3, p3, z3, r3⟩ := zero7 W2
    have HZ : Hid (w.heap.size < W2.heap.size ∧ W2.heap.size < W3.heap.size) := Lib.hid ⟨by omega, by omega⟩
    have hne : W2.heap.size ≠ w.heap.size := by have h := HZ.out; omega
    have gx := (hg.later r3).cell
    have b3 := bthen r1 (bthen r2 r3)
    have q3 := q1.later (bthen r2 r3)
    have hsub3 := sub_later hsub b3
    have eT : ((str o).toList == [97, 116]) = (o == wAt) := by rw [Lib.toList_data, str_list]; rfl
    have HB3 := Lib.hid b3
    have P3 := Lib.hid p3
    have HW1 := Lib.hid hW1
    have HW2 := Lib.hid hW2
    have HW3 := Lib.hid hW3
    obtain ⟨x0, x1, x2, x3, x4, x5, x6⟩ := q3.cells
    obtain ⟨f0, f1, f2, f3, f4, f5, f6⟩ := q3.free
    have hmf : ∀ (fn : Fn) (first cap : Array Value) (w : World), (Instr.makeFunc fn first cap).run Tryz.prog w = .ok (.func fn first cap) w := fun _ _ _ _ => rfl
    simp only [E.op, E.v, E.tb, E.nm, E.l, eVal]
    by_cases ho : o = wAt
    · obtain ⟨fe, hfe⟩ : ∃ fe, fe = (E.mk o v t n l).mv W := ⟨_, rfl⟩
      have hfe2 : fe = .mk o ⟨v.k, wrap64 (v.i + W), v.s⟩ t n l := by rw [hfe, E.mv, if_pos ho]
      rw [← hfe]
      obtain ⟨Ws, hWs⟩ : ∃ Ws : World, Ws = W3.setCell ⟨w.heap.size, 2, none⟩ (.int .i64 (wrap64 (v.i + W))) := ⟨_, rfl⟩
      have hbs : Below w.heap.size w Ws := by rw [hWs]; exact b3.setCell (p := ⟨w.heap.size, 2, none⟩) (Nat.le_refl _) _
      have hzs : Ws.heap.size = W3.heap.size := by rw [hWs]; exact size_setCell ..
      have hps : B7 Ws W2.heap.size (.string ⟨#[]⟩) (.int .i64 0) (.int .i64 0) (.string ⟨#[]⟩) (.string ⟨#[]⟩) (.string ⟨#[]⟩) (.slice none 0 0) := p3.same (by rw [hWs]; exact Below.heap_setCell _ _ _ _ hne)
      have hqs : B7 Ws w.heap.size (.string (str o)) (.int .i64 v.k) (.int .i64 (wrap64 (v.i + W))) (.string (str v.s)) (.string (str t)) (.string (str n)) (.slice A l.length c) := by
        rw [hWs]
        have h6 := heap_set_same (.int .i64 (wrap64 (v.i + W))) (o := 2) q3
        unfold B7
        simpa only [List.setIfInBounds_toArray, List.set_cons_zero, List.set_cons_succ] using h6
      have HC : Hid (Calls Tryz.prog 28 #[.agg #[.string (str o), .int .i64 v.k, .int .i64 (wrap64 (v.i + W)), .string (str v.s), .string (str t), .string (str n), .slice A l.length c]] Ws (GivesE Ws fe)) := Lib.hid (by
        rw [hfe2]
        exact copied_any (.mk o ⟨v.k, wrap64 (v.i + W), v.s⟩ t n l) _ S Ws ⟨A, c, rfl, (sub_later hsub hbs : Sub S Ws (.mk o v t n l) A c)⟩ hsz0)
      have HPs := Lib.hid hps
      have HBs := Lib.hid hbs
      have HWs := Lib.hid hWs
      have HZS := Lib.hid hzs
      have HQs := Lib.hid hqs
      have hb : (o == wAt) = true := by simpa using ho
      obtain ⟨u0, u1, u2, u3, u4, u5, u6⟩ := hqs.cells
      rw [hb] at eT
      clear hsub hsub3 hg r1 r2 r3 z1 z2 z3 q1 q3 p3 b3 hW1 hW2 hW3 hWs hbs hzs hps hqs hfe hfe2 ih hb ho hsz hsz0 hlen
      go_enter Tryz.func16, Tryz.ntmps16
      go_wp2_with (first | (rw [← HWs.out]) | (rw [← HW3.out]) | (rw [← HW2.out]) | (rw [← HW1.out]))
      refine (HC.out).mono ?_
      rintro r w6 ⟨A6, c6, rfl, hs6, b6⟩
      have P6 := Lib.hid (HPs.out.later b6)
      have B6 := Lib.hid (bthen HBs.out b6)
      have HS6 := Lib.hid hs6
      clear hs6 b6 HC x0 x1 x2 x3 x4 x5 x6
      obtain ⟨y0, y1, y2, y3, y4, y5, y6⟩ := P6.out.cells
      obtain ⟨g0, g1, g2, g3, g4, g5, g6⟩ := P6.out.free
      obtain ⟨W8, hW8, b8, z8, o8, l8⟩ := stored7 P6.out (.string (str fe.op)) (.int .i64 fe.v.k) (.int .i64 fe.v.i) (.string (str fe.v.s)) (.string (str fe.tb)) (.string (str fe.nm)) (.slice A6 fe.l.length c6)
      obtain ⟨k0, k1, k2, k3, k4, k5, k6⟩ := b8.cells
      have HFIN : Hid (Sub (fun b => w.heap.size ≤ b) W8 fe A6 c6 ∧ Below w.heap.size w W8) := ⟨HS6.out.keep (fun b hb _ => ⟨by have h1 : Ws.heap.size ≤ b := hb; have h2 := HZ.out; have h3 := HZS.out; omega, o8 b (by have h1 : Ws.heap.size ≤ b := hb; have h2 := HZ.out; have h3 := HZS.out; omega)⟩) (by rw [z8]; exact Nat.le_refl _), B6.out.trans (l8 w.heap.size (by have h2 := HZ.out; have h3 := HZS.out; omega))⟩
      have HW8 := Lib.hid hW8
      clear hW8 b8 z8 o8 l8
      unfold eVal
      go_wp2_with (rw [← HW8.out])
      exact bodyPost_ret (v := .agg #[.string (str fe.op), .int .i64 fe.v.k, .int .i64 fe.v.i, .string (str fe.v.s), .string (str fe.tb), .string (str fe.nm), .slice A6 fe.l.length c6]) (by simp [results, Tryz.results16, go_sem, k0, k1, k2, k3, k4, k5, k6]) rfl ⟨A6, c6, rfl, HFIN.out⟩
    · obtain ⟨fe, hfe⟩ : ∃ fe, fe = (E.mk o v t n l).mv W := ⟨_, rfl⟩
      have hfe2 : fe = .mk o v t n (l.map (E.mv W)) := by rw [hfe, E.mv, if_neg ho, mvL_map]
      rw [← hfe]
      have HC : Hid (Calls Tryz.prog 37 #[.agg #[.string (str o), .int .i64 v.k, .int .i64 v.i, .string (str v.s), .string (str t), .string (str n), .slice A l.length c], .func (.func 38) #[] #[.pointer (some ⟨W1.heap.size, 0, none⟩)]] W3 (GivesE W3 fe)) := Lib.hid (by
        rw [hfe2]
        refine (withParts_any (E.mv W) 38 #[.pointer (some ⟨W1.heap.size, 0, none⟩)] (Proofs.enters_of Tryz.func38 (by kernel_rfl) rfl) o v t n l S A c W3 hsub3 (by omega) fun p hp x S' W4 hb4 hx => ?_).mono ?_
        · obtain ⟨A', c', rfl, hs'⟩ := hx
          exact mv1_any W (p.mv W) p.op p.v p.tb p.nm p.l A' c' W1.heap.size W4 ((hg.later r3).later hb4) fun W5 hb5 => ih p hp _ S' W5 ⟨A', c', rfl, sub_later hs' hb5⟩ (by have := size_mem hp; omega)
        · rintro q w' ⟨A', c', rfl, h2, h3⟩
          refine ⟨A', c', ?_, h2, h3⟩
          simp only [E.op, E.v, E.tb, E.nm, E.l, List.length_map])
      have hb : (o == wAt) = false := by simpa using ho
      rw [hb] at eT
      clear hsub hsub3 hg r1 r2 r3 z1 z2 z3 q1 q3 p3 b3 hW1 hW2 hW3 hfe hfe2 ih hb ho hsz hsz0 hlen
      go_enter Tryz.func16, Tryz.ntmps16
      go_wp2_with (first | (rw [← HW3.out]) | (rw [← HW2.out]) | (rw [← HW1.out]) | (rw [hmf]))
      refine (HC.out).mono ?_
      rintro r w6 ⟨A6, c6, rfl, hs6, b6⟩
      have P6 := Lib.hid (P3.out.later b6)
      have B6 := Lib.hid (bthen HB3.out b6)
      have HS6 := Lib.hid hs6
      clear hs6 b6 HC x0 x1 x2 x3 x4 x5 x6
      obtain ⟨y0, y1, y2, y3, y4, y5, y6⟩ := P6.out.cells
      obtain ⟨g0, g1, g2, g3, g4, g5, g6⟩ := P6.out.free
      obtain ⟨W8, hW8, b8, z8, o8, l8⟩ := stored7 P6.out (.string (str fe.op)) (.int .i64 fe.v.k) (.int .i64 fe.v.i) (.string (str fe.v.s)) (.string (str fe.tb)) (.string (str fe.nm)) (.slice A6 fe.l.length c6)
      obtain ⟨k0, k1, k2, k3, k4, k5, k6⟩ := b8.cells
      have HFIN : Hid (Sub (fun b => w.heap.size ≤ b) W8 fe A6 c6 ∧ Below w.heap.size w W8) := ⟨HS6.out.keep (fun b hb _ => ⟨by have h1 : W3.heap.size ≤ b := hb; have h2 := HZ.out; omega, o8 b (by have h1 : W3.heap.size ≤ b := hb; have h2 := HZ.out; omega)⟩) (by rw [z8]; exact Nat.le_refl _), B6.out.trans (l8 w.heap.size (by have h2 := HZ.out; omega))⟩
      have HW8 := Lib.hid hW8
      clear hW8 b8 z8 o8 l8
      unfold eVal
      go_wp2_with (rw [← HW8.out])
      exact bodyPost_ret (v := .agg #[.string (str fe.op), .int .i64 fe.v.k, .int .i64 fe.v.i, .string (str fe.v.s), .string (str fe.tb), .string (str fe.nm), .slice A6 fe.l.length c6]) (by simp [results, Tryz.results16, go_sem, k0, k1, k2, k3, k4, k5, k6]) rfl ⟨A6, c6, rfl, HFIN.out⟩
end Go.Proofs.YtcmbdghbicjljaaGreatDoor
