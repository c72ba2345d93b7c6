/- The law EvalMoves: of a row with more values ahead the moved expression has the value; moved back it is itself. Condition: the library's one variable is there; integers of 64 bits. -/
import Derived.Test.YtcmbdghbicjljaaGreatDoorQ43
import Derived.Test.YtcmbdghbicjljaaGreatDoorQ42
import Derived.Test.YtcmbdghbicjljaaGreatDoorQ31
import Derived.Deep.RegionHeldLaw
set_option linter.unusedSimpArgs false
set_option linter.unusedVariables false
namespace Go.Proofs.YtcmbdghbicjljaaGreatDoor
open Go.RowKit
open Go.Proofs.YtcmbdghbicjljaaGreatDoor.SC (HV VBox zero_box Args)
theorem app_one (Wd : World) (ys : List BV.V) (B : Option Addr) (d : Nat) (hq : BV.RowAt Wd Wd.heap.size B ys) (hm : ys.length ≤ 1000) (W : World) (hb : Below Wd.heap.size Wd W) :
    ∃ v1 w1, (Builtin.append_ #[28, 28] 28 #[.slice none 0 0, .slice B ys.length d]).run Tryz.prog W = .ok v1 w1 ∧ Hid (OwnV w1 W.heap.size v1 ys) ∧ Hid (Below Wd.heap.size Wd w1) ∧ Hid (Below W.heap.size W w1) := by
  obtain ⟨v1, w1, h1, h2, h3, -⟩ := ownV_app 28 28 Tryz.underlying28 (OwnV.nil W W.heap.size) ys B d (hq.later hb) (by simp; omega) (Nat.le_refl _)
  have hg : Below W.heap.size W w1 := ⟨h3.os, h3.tape, h3.output, h3.size, fun k hk => h3.block k hk (by simp [Value.ownBlock])⟩
  exact ⟨v1, w1, h1, Lib.hid (by simpa using h2), Lib.hid (bthen hb hg), Lib.hid hg⟩
theorem app_two (Wd : World) (xs ys : List BV.V) (A : Option Addr) (c : Nat) (hr : BV.RowAt Wd Wd.heap.size A xs) (hm : ys.length + xs.length ≤ 1000) (W : World) (v1 : Value) (ho : OwnV W Wd.heap.size v1 ys) (hb : Below Wd.heap.size Wd W) :
    ∃ v2 w2, (Builtin.append_ #[28, 28] 28 #[v1, .slice A xs.length c]).run Tryz.prog W = .ok v2 w2 ∧ Hid (∃ A2 c2, v2 = .slice A2 (ys ++ xs).length c2 ∧ BV.RowAt w2 w2.heap.size A2 (ys ++ xs)) ∧ Hid (Below Wd.heap.size Wd w2) ∧ Hid (W.grownBy w2 v1.ownBlock) := by
  obtain ⟨v2, w2, h1, h2, h3, -⟩ := ownV_app 28 28 Tryz.underlying28 ho xs A c (hr.later hb) (by omega) hb.size
  obtain ⟨A2, c2, hv, -, -, hrow⟩ := h2.row
  exact ⟨v2, w2, h1, Lib.hid ⟨A2, c2, hv, hrow⟩, Lib.hid (ownV_below hb ho h3 hb.size), Lib.hid h3⟩
theorem s7m_of {W : World} {r : Nat} {c0 c1 c2 c3 c4 c5 c6 : Value} (hr : B7 W r c0 c1 c2 c3 c4 c5 c6) (w' : World) (hb : Below W.heap.size W w') : Below W.heap.size W w' ∧ w'.cell? ⟨r, 0, none⟩ = some c0 ∧ w'.cell? ⟨r, 1, none⟩ = some c1 ∧ w'.cell? ⟨r, 2, none⟩ = some c2 ∧ w'.cell? ⟨r, 3, none⟩ = some c3 ∧ w'.cell? ⟨r, 4, none⟩ = some c4 ∧ w'.cell? ⟨r, 5, none⟩ = some c5 ∧ w'.cell? ⟨r, 6, none⟩ = some c6 ∧ True := by
  obtain ⟨b0, b1, b2, b3, b4, b5, b6⟩ := (hr.later hb).cells
  exact ⟨hb, b0, b1, b2, b3, b4, b5, b6, trivial⟩
theorem vb_grown {W W' : World} {g : Nat} {v : BV.V} {r : Option Nat} (h : VBox W g v) (hg : W.grownBy W' r) (hr : r ≠ some g) : VBox W' g v := (hg.block g (Array.getElem?_eq_some_iff.1 h).1 (fun e => hr e.symm)).trans h
theorem s14_of {W : World} {p q r t : Nat} {v u : BV.V} {c0 c1 c2 c3 c4 c5 c6 d0 d1 d2 d3 d4 d5 d6 : Value} (hp : VBox W p v) (hq : VBox W q u) (hr : B7 W r c0 c1 c2 c3 c4 c5 c6) (ht : B7 W t d0 d1 d2 d3 d4 d5 d6) (w' : World) (hb : Below W.heap.size W w') : Below W.heap.size W w' ∧ w'.cell? ⟨p, 0, none⟩ = some (.int .i64 v.k) ∧ w'.cell? ⟨p, 1, none⟩ = some (.int .i64 v.i) ∧ w'.cell? ⟨p, 2, none⟩ = some (.string v.s) ∧ w'.cell? ⟨q, 0, none⟩ = some (.int .i64 u.k) ∧ w'.cell? ⟨q, 1, none⟩ = some (.int .i64 u.i) ∧ w'.cell? ⟨q, 2, none⟩ = some (.string u.s) ∧ w'.cell? ⟨r, 0, none⟩ = some c0 ∧ w'.cell? ⟨r, 1, none⟩ = some c1 ∧ w'.cell? ⟨r, 2, none⟩ = some c2 ∧ w'.cell? ⟨r, 3, none⟩ = some c3 ∧ w'.cell? ⟨r, 4, none⟩ = some c4 ∧ w'.cell? ⟨r, 5, none⟩ = some c5 ∧ w'.cell? ⟨r, 6, none⟩ = some c6 ∧ w'.cell? ⟨t, 0, none⟩ = some d0 ∧ w'.cell? ⟨t, 1, none⟩ = some d1 ∧ w'.cell? ⟨t, 2, none⟩ = some d2 ∧ w'.cell? ⟨t, 3, none⟩ = some d3 ∧ w'.cell? ⟨t, 4, none⟩ = some d4 ∧ w'.cell? ⟨t, 5, none⟩ = some d5 ∧ w'.cell? ⟨t, 6, none⟩ = some d6 ∧ True := by
  obtain ⟨z0, z1, z2⟩ := (hp.later hb).cells
  obtain ⟨a0, a1, a2⟩ := (hq.later hb).cells
  obtain ⟨b0, b1, b2, b3, b4, b5, b6⟩ := (hr.later hb).cells
  obtain ⟨e0, e1, e2, e3, e4, e5, e6⟩ := (ht.later hb).cells
  exact ⟨hb, z0, z1, z2, a0, a1, a2, b0, b1, b2, b3, b4, b5, b6, e0, e1, e2, e3, e4, e5, e6, trivial⟩
set_option maxRecDepth 100000 in
set_option maxHeartbeats 8000000 in
theorem moves_law (e : E) (S : Nat → Prop) (A1 : Option Addr) (c1 : Nat) (xs : List BV.V) (A : Option Addr) (c : Nat) (ys : List BV.V) (B : Option Addr) (d : Nat) (w : World) (hs : Sub S w e A1 c1) (hr : BV.RowAt w w.heap.size A xs) (hq : BV.RowAt w w.heap.size B ys) (hE : SC.Env w) (hl : xs.length ≤ 140737488355328) (ht : ∀ x ∈ xs, x.s.size ≤ 140737488355328) (hxi : ∀ x ∈ xs, -9223372036854775808 ≤ x.i ∧ x.i ≤ 9223372036854775807) (hl' : ys.length ≤ 140737488355328) (ht' : ∀ x ∈ ys, x.s.size ≤ 140737488355328) (hin : e.ints = true) :
    Calls Tryz.prog 5 #[eVal e.op e.v e.tb e.nm (.slice A1 e.l.length c1), .slice A xs.length c, .slice B ys.length d] w fun q w' => q = .returned (.bool true) ∧ Below w.heap.size w w' := by
  obtain ⟨W1, hW1, q1, z1, r1⟩ := box7 w (.string (str e.op)) (.int .i64 e.v.k) (.int .i64 e.v.i) (.string (str e.v.s)) (.string (str e.tb)) (.string (str e.nm)) (.slice A1 e.l.length c1)
  obtain ⟨a0, a1, a2, a3, a4, a5, a6⟩ := q1.cells
  have HW1 := Lib.hid hW1
  have Q1 := Lib.hid q1
  have HB := Lib.hid r1
  have hs1 := sub_later hs r1
  have SE := Lib.hid hs1
  have R1 := Lib.hid (hr.later r1)
  have Y1 := Lib.hid (hq.later r1)
  have E1 := Lib.hid (hE.later r1)
  have HBIG : Hid (∀ W, Below W1.heap.size W1 W → Calls Tryz.prog 8 #[.slice A xs.length c, .slice (some ⟨W.heap.size, 0, none⟩) 1 1] (W.alloc (.cells #[.string (str e.op), .int .i64 e.v.k, .int .i64 e.v.i, .string (str e.v.s), .string (str e.tb), .string (str e.nm), .slice A1 e.l.length c1] 26)) fun q w' => q = .returned (.bool (!(okE e && BV.few [⟨A, c, xs⟩] 600))) ∧ Below W.heap.size W w') := Lib.hid fun W hb => by
    have h := big_any xs A c [e] v0 (some ⟨W.heap.size, 0, none⟩) 1 _ _ ((hr.later (bthen r1 hb)).later (bel_allocE (Below.refl _ _) _)) hl ht (one_sub e A1 c1 (sub_later hs1 hb) [] v0 [] [])
    simp only [List.all_cons, List.all_nil, Bool.and_true] at h
    exact h.mono fun q w' ⟨h1, h2⟩ => ⟨h1, bthen (bel_allocE (Below.refl _ _) _) h2⟩
  have HBIG2 : Hid (∀ W, Below W1.heap.size W1 W → Calls Tryz.prog 8 #[.slice B ys.length d, .slice none 0 0] W fun q w' => q = .returned (.bool (!(BV.few [⟨B, d, ys⟩] 600))) ∧ Below W.heap.size W w') := Lib.hid fun W hb => bigN_any ys B d W (hq.later (bthen r1 hb)) hl' ht'
  have HROW : Hid (∀ W, Below W1.heap.size W1 W → Calls Tryz.prog 14 #[.slice B ys.length d] W fun q w' => q = .returned (.int .i64 (BV.chkR ys)) ∧ Below W.heap.size W w') := Lib.hid fun W hb => BV.rcheckRow_any ys B d W (hq.later (bthen r1 hb)) (by omega)
  have HWID : Hid (okE e = true → xs.length ≤ 600 → ∀ W, Below W1.heap.size W1 W → Calls Tryz.prog 9 #[.slice A xs.length c, .slice (some ⟨W.heap.size, 0, none⟩) 1 1] (W.alloc (.cells #[.string (str e.op), .int .i64 e.v.k, .int .i64 e.v.i, .string (str e.v.s), .string (str e.tb), .string (str e.nm), .slice A1 e.l.length c1] 26)) fun q w' => q = .returned (.bool (chkW xs.length e == 0 && BV.chkR xs == 0)) ∧ Below W.heap.size W w') := Lib.hid fun hok hx6 W hb => by
    obtain ⟨k1, k2⟩ := ok_size hok
    have h := wide_any xs A c [e] v0 (some ⟨W.heap.size, 0, none⟩) 1 _ _ ((hr.later (bthen r1 hb)).later (bel_allocE (Below.refl _ _) _)) (by omega) (fun x hx => by rw [List.mem_singleton.1 hx]; exact ⟨by omega, k2⟩) (one_sub e A1 c1 (sub_later hs1 hb) [] v0 [] [])
    simp only [List.all_cons, List.all_nil, Bool.and_true] at h
    exact h.mono fun q w' ⟨h1, h2⟩ => ⟨h1, bthen (bel_allocE (Below.refl _ _) _) h2⟩
  have HFA : Hid (okE e = true → BV.few [⟨A, c, xs⟩] 600 = true → chkW xs.length e = 0 → ys.length + xs.length ≤ 60 → Movable e ys xs) := Lib.hid fun hok hf hc hlen => by
    obtain ⟨k1, k2⟩ := few_rowE hf
    exact mov_facts hok hc hin (fun v hv => ⟨hxi v hv, by have := k2 v hv; omega⟩) (by omega)
  have HXL : Hid (BV.few [⟨A, c, xs⟩] 600 = true → xs.length ≤ 600) := Lib.hid fun hf => (few_rowE hf).1
  have HYL : Hid (BV.few [⟨B, d, ys⟩] 600 = true → ys.length ≤ 600) := Lib.hid fun hf => (few_rowE hf).1
  clear hW1 q1 z1 r1 hs hs1 hr hq hE hl ht hxi hl' ht' hin
  unfold eVal
  go_enter Tryz.func5, Tryz.ntmps5
  go_wp2_with (rw [← HW1.out])
  refine (live_any _ E1.out).mono ?_
  rintro r w2 ⟨rfl, b2⟩
  have B2 := Lib.hid b2
  obtain ⟨x0, x1, x2, x3, x4, x5, x6⟩ := (Q1.out.later b2).cells
  clear b2 a0 a1 a2 a3 a4 a5 a6
  go_wp2_with fail
  refine (HBIG.out w2 B2.out).mono ?_
  rintro r w3 ⟨rfl, b3⟩
  have B3 := Lib.hid (bthen B2.out b3)
  clear b3 x0 x1 x2 x3 x4 x5 x6 HBIG
  by_cases hok : (okE e && BV.few [⟨A, c, xs⟩] 600) = true
  · rw [hok]
    have hok1 : okE e = true := by
      rw [Bool.and_eq_true] at hok
      exact hok.1
    have hok2 : BV.few [⟨A, c, xs⟩] 600 = true := by
      rw [Bool.and_eq_true] at hok
      exact hok.2
    have hx6 := HXL.out hok2
    have HX6 := Lib.hid hx6
    have HWD := Lib.hid (HWID.out hok1 hx6)
    have HFB := Lib.hid (HFA.out hok1 hok2)
    clear hok hok1 hok2 HWID HFA HXL hx6
    go_wp2_with fail
    refine (HBIG2.out w3 B3.out).mono ?_
    rintro r w4 ⟨rfl, b4⟩
    have B4 := Lib.hid (bthen B3.out b4)
    clear b4 HBIG2
    by_cases hy : BV.few [⟨B, d, ys⟩] 600 = true
    · rw [hy]
      have HY6 := Lib.hid (HYL.out hy)
      have HWD4 := Lib.hid (HWD.out w4 B4.out)
      obtain ⟨x0, x1, x2, x3, x4, x5, x6⟩ := (Q1.out.later B4.out).cells
      clear hy HYL HWD
      go_wp2_with fail
      refine (HWD4.out).mono ?_
      rintro r w5 ⟨rfl, b5⟩
      have B5 := Lib.hid (bthen B4.out b5)
      clear b5 x0 x1 x2 x3 x4 x5 x6 HWD4
      by_cases hwd : (chkW xs.length e == 0 && BV.chkR xs == 0) = true
      · rw [hwd]
        have hck : chkW xs.length e = 0 := by
          rw [Bool.and_eq_true] at hwd
          simpa using hwd.1
        have HFC := Lib.hid (HFB.out hck)
        clear hwd hck HFB
        go_wp2_with fail
        refine (HROW.out w5 B5.out).mono ?_
        rintro r w6 ⟨rfl, b6⟩
        have B6 := Lib.hid (bthen B5.out b6)
        clear b6 HROW
        by_cases hrw : BV.chkR ys = 0
        · rw [hrw]
          clear hrw
          have hwl : wrap64 ((ys.length : Int) + (xs.length : Int)) = (ys.length : Int) + (xs.length : Int) := by
            have h1 := HX6.out
            have h2 := HY6.out
            unfold wrap64
            omega
          by_cases hle : ys.length + xs.length ≤ 60
          · have hgt : ¬ (60 : Int) < (ys.length : Int) + (xs.length : Int) := by omega
            have hgt2 : ¬ ((ys.length : Int) + (xs.length : Int) > 60) := by omega
            have FM := HFC.out hle
            have HLE := Lib.hid hle
            clear HFC hle
            obtain ⟨x0, x1, x2, x3, x4, x5, x6⟩ := (Q1.out.later B6.out).cells
            obtain ⟨f, hf⟩ : ∃ f, e.mv ys.length = f := ⟨_, rfl⟩
            obtain ⟨an, han⟩ : ∃ an, e.ev deedP xs = an := ⟨_, rfl⟩
            obtain ⟨fsz, fmsz, frf, fmf, fmev, fback⟩ := FM
            rw [hf] at fmsz fmf fmev fback
            rw [han] at fmev
            have hneg : IntKind.i64.wrap (-(ys.length : Int)) = -(ys.length : Int) := by
              have h2 := HY6.out
              rw [IntKind.wrap_i64]
              omega
            have CM : Hid (∀ W, Below W1.heap.size W1 W → Calls Tryz.prog 16 #[.agg #[.string (str e.op), .int .i64 e.v.k, .int .i64 e.v.i, .string (str e.v.s), .string (str e.tb), .string (str e.nm), .slice A1 e.l.length c1], .int .i64 ys.length] W fun q w' => ∃ Ag cg, q = .returned (eVal f.op f.v f.tb f.nm (.slice Ag f.l.length cg)) ∧ Hid (Sub (fun _ => True) w' f Ag cg) ∧ Below W.heap.size W w') := Lib.hid fun W hb => by
              have h := move_any (ys.length : Int) e _ S W ⟨_, _, rfl, sub_later SE.out hb⟩ fsz
              rw [hf] at h
              refine h.mono ?_
              rintro q w' ⟨Ag, cg, rfl, h2, h3⟩
              exact ⟨Ag, cg, rfl, Lib.hid (h2.keep (S' := fun _ => True) (fun _ _ _ => ⟨trivial, rfl⟩) (Nat.le_refl _)), h3⟩
            have CE : Hid (∀ W, Below W1.heap.size W1 W → Calls Tryz.prog 11 #[.agg #[.string (str e.op), .int .i64 e.v.k, .int .i64 e.v.i, .string (str e.v.s), .string (str e.tb), .string (str e.nm), .slice A1 e.l.length c1], .slice A xs.length c] W fun q w' => q = .returned (vA an) ∧ Below W.heap.size W w') := Lib.hid fun W hb => by
              have h := evalE_any xs (by have := HX6.out; omega) e _ S W A c ⟨_, _, rfl, sub_later SE.out hb⟩ (R1.out.later hb) (E1.out.later hb) frf
              rw [han] at h
              exact h
            have CE2 : Hid (∀ W Af cf A2 c2, Sub (fun _ => True) W f Af cf → BV.RowAt W W.heap.size A2 (ys ++ xs) → Below W1.heap.size W1 W → Calls Tryz.prog 11 #[eVal f.op f.v f.tb f.nm (.slice Af f.l.length cf), .slice A2 (ys ++ xs).length c2] W fun q w' => q = .returned (vA an) ∧ Below W.heap.size W w') := Lib.hid fun W Af cf A2 c2 hsf hrw hb => by
              have h := evalE_any (ys ++ xs) (by rw [List.length_append]; have := HLE.out; omega) f _ _ W A2 c2 ⟨Af, cf, rfl, hsf⟩ hrw (E1.out.later hb) fmf
              rw [fmev] at h
              exact h
            have CB : Hid (∀ W Af cf, Sub (fun _ => True) W f Af cf → Calls Tryz.prog 16 #[eVal f.op f.v f.tb f.nm (.slice Af f.l.length cf), .int .i64 (IntKind.i64.wrap (-(ys.length : Int)))] W fun q w' => ∃ Ag cg, q = .returned (.agg #[.string (str e.op), .int .i64 e.v.k, .int .i64 e.v.i, .string (str e.v.s), .string (str e.tb), .string (str e.nm), .slice Ag e.l.length cg]) ∧ Hid (Sub (fun _ => True) w' e Ag cg) ∧ Below W.heap.size W w') := Lib.hid fun W Af cf hsf => by
              rw [hneg]
              have h := move_any (-(ys.length : Int)) f _ _ W ⟨Af, cf, rfl, hsf⟩ fmsz
              rw [fback] at h
              refine h.mono ?_
              rintro q w' ⟨Ag, cg, rfl, h2, h3⟩
              exact ⟨Ag, cg, rfl, Lib.hid (h2.keep (S' := fun _ => True) (fun _ _ _ => ⟨trivial, rfl⟩) (Nat.le_refl _)), h3⟩
            have CS : Hid (∀ W Ag cg, Sub (fun _ => True) W e Ag cg → Below W1.heap.size W1 W → Calls Tryz.prog 13 #[.agg #[.string (str e.op), .int .i64 e.v.k, .int .i64 e.v.i, .string (str e.v.s), .string (str e.tb), .string (str e.nm), .slice Ag e.l.length cg], .agg #[.string (str e.op), .int .i64 e.v.k, .int .i64 e.v.i, .string (str e.v.s), .string (str e.tb), .string (str e.nm), .slice A1 e.l.length c1]] W fun q w' => q = .returned (.bool true) ∧ Below W.heap.size W w') := Lib.hid fun W Ag cg h1 hb => by
              have h := rSame_any e e _ _ _ _ W ⟨_, _, rfl, h1⟩ ⟨_, _, rfl, sub_later SE.out hb⟩
              rw [same_refl] at h
              exact h
            have AP1 := Lib.hid (fun (Wd : World) (h : Below W1.heap.size W1 Wd) => app_one Wd ys B d (Y1.out.later h) (by have := HY6.out; omega))
            have AP2 := Lib.hid (fun (Wd : World) (h : Below W1.heap.size W1 Wd) => app_two Wd xs ys A c (R1.out.later h) (by have := HLE.out; omega))
            clear hf han fsz fmsz frf fmf fmev fback hneg
            unfold eVal at CM CE2 CB
            generalize str f.op = fo at *
            generalize str f.tb = ft at *
            generalize str f.nm = fn at *
            generalize str f.v.s = fs at *
            generalize f.v.k = fk at *
            generalize f.v.i = fi at *
            generalize f.l.length = fl at *
            obtain ⟨er, uk, ui, us⟩ := an
            unfold vA at CE CE2
            dsimp only at CE CE2
            go_wp2_with fail
            refine (CM.out w6 B6.out).mono ?_
            rintro r w7 ⟨Af, cf, rfl, hsf, b7⟩
            obtain ⟨Wa, W8, hWa, hW8, p1, p2, hz, hb1, hb2⟩ := made7 w7 (.string fo) (.int .i64 fk) (.int .i64 fi) (.string fs) (.string ft) (.string fn) (.slice Af fl cf)
            have B8 := Lib.hid (bthen B6.out (bthen b7 hb2))
            have SF8 := Lib.hid (sub_later hsf.out hb2)
            have Q8 := Lib.hid p2
            have HWa := Lib.hid hWa
            have HW8 := Lib.hid hW8
            obtain ⟨p10, p11, p12, p13, p14, p15, p16⟩ := p1.cells
            obtain ⟨f10, f11, f12, f13, f14, f15, f16⟩ := p1.free
            clear x0 x1 x2 x3 x4 x5 x6
            obtain ⟨x0, x1, x2, x3, x4, x5, x6⟩ := (Q1.out.later B8.out).cells
            clear b7 hb1 hb2 hz hWa hW8 p1 p2 hsf CM
            go_wp2_with (first | (rw [← HW8.out]) | (rw [← HWa.out]))
            refine (CE.out W8 B8.out).mono ?_
            rintro r w9 ⟨rfl, b9⟩
            obtain ⟨Wd, hWd⟩ : ∃ Wd : World, Wd = w9.alloc (.cells #[.int .i64 uk, .int .i64 ui, .string us] 23) := ⟨_, rfl⟩
            have hbd : Below w9.heap.size w9 Wd := by rw [hWd]; exact bel_allocE (Below.refl _ _) _
            have VD := Lib.hid (show VBox Wd w9.heap.size ⟨uk, ui, us⟩ by rw [hWd]; exact vnewE w9 uk ui us)
            have BD := Lib.hid (bthen B8.out (bthen b9 hbd))
            have SFD := Lib.hid (sub_later SF8.out (bthen b9 hbd))
            have QD := Lib.hid (Q8.out.later (bthen b9 hbd))
            have HWd := Lib.hid hWd
            clear b9 hbd hWd x0 x1 x2 x3 x4 x5 x6 p10 p11 p12 p13 p14 p15 p16 f10 f11 f12 f13 f14 f15 f16 CE
            go_upto_region 6 with (rw [← HWd.out])
            have KP := Lib.hid (s7m_of QD.out)
            have BB := Lib.hid (Below.refl Wd.heap.size Wd)
            have SS := Lib.hid (KP.out Wd BB.out)
            have AD1 := Lib.hid (AP1.out Wd BD.out)
            have AD2 := Lib.hid (AP2.out Wd BD.out)
            have BDr := Lib.hid (show Below Wd.heap.size Wd Wd.drew from (Below.refl _ _).drew)
            have BDa := Lib.hid (show Below Wd.heap.size Wd (Wd.alloc (.cells #[.int .i64 0, .int .i64 0, .string ⟨#[]⟩] 23)).drew from ((Below.refl Wd.heap.size Wd).alloc (Nat.le_refl _) _).drew)
            obtain ⟨va, wa, hra, OA, BA, GA⟩ := AD1.out Wd.drew BDr.out
            obtain ⟨vb, wb, hrb, OB, BBb, GB⟩ := AD1.out (Wd.alloc (.cells #[.int .i64 0, .int .i64 0, .string ⟨#[]⟩] 23)).drew BDa.out
            have OA' := Lib.hid (World.ownsRow.mono OA.out (show Wd.heap.size ≤ Wd.drew.heap.size from BDr.out.size))
            have OB' := Lib.hid (World.ownsRow.mono OB.out BDa.out.size)
            obtain ⟨va2, wa2, hra2, RA2, BA2, GA2⟩ := AD2.out wa va OA'.out BA.out
            obtain ⟨vc2, wc2, hrc2, RC2, BC2, GC2⟩ := AD2.out (wa.alloc (.cells #[.int .i64 0, .int .i64 0, .string ⟨#[]⟩] 23)) va (OwnV.alloc OA'.out _) (BA.out.alloc BA.out.size _)
            obtain ⟨vb2, wb2, hrb2, RB2, BB2, GB2⟩ := AD2.out wb vb OB'.out BBb.out
            obtain ⟨A2a, c2a, rfl, rowa⟩ := RA2.out
            obtain ⟨A2c, c2c, rfl, rowc⟩ := RC2.out
            obtain ⟨A2b, c2b, rfl, rowb⟩ := RB2.out
            have VC : Hid (VBox wc2 wa.heap.size SC.zV) := Lib.hid (vb_grown (vnewE wa 0 0 ⟨#[]⟩) GC2.out (fun e => by have h := OwnV.block OA.out e; omega))
            have VB : Hid (VBox wb2 Wd.heap.size SC.zV) := Lib.hid (vb_grown (VBox.later (show VBox (Wd.alloc (.cells #[.int .i64 0, .int .i64 0, .string ⟨#[]⟩] 23)).drew Wd.heap.size SC.zV from vnewE Wd 0 0 ⟨#[]⟩) GB.out) GB2.out (fun e => by have h := OwnV.block OB.out e; simp at h; omega))
            have CA1 := Lib.hid (CE2.out wa2 Af cf A2a c2a (sub_later SFD.out BA2.out) rowa (bthen BD.out BA2.out))
            have hza : Below wa2.heap.size wa2 (wa2.alloc (.cells #[.int .i64 0, .int .i64 0, .string ⟨#[]⟩] 23)) := (Below.refl _ _).alloc (Nat.le_refl _) _
            have CA2 := Lib.hid (CE2.out (wa2.alloc (.cells #[.int .i64 0, .int .i64 0, .string ⟨#[]⟩] 23)) Af cf A2a c2a (sub_later SFD.out (bthen BA2.out hza)) (rowa.later hza) (bthen BD.out (bthen BA2.out hza)))
            have CC2 := Lib.hid (CE2.out wc2 Af cf A2c c2c (sub_later SFD.out BC2.out) rowc (bthen BD.out BC2.out))
            have CB2 := Lib.hid (CE2.out wb2 Af cf A2b c2b (sub_later SFD.out BB2.out) rowb (bthen BD.out BB2.out))
            have GWA : Hid (Wd.heap.size ≤ wa.heap.size) := Lib.hid BA.out.size
            have GWA2 : Hid (Wd.heap.size ≤ wa2.heap.size) := Lib.hid BA2.out.size
            generalize (ys ++ xs).length = nxy at *
            clear rowa rowb rowc hza RA2 RB2 RC2 GA GB GA2 GB2 GC2 OA OB OA' OB' AD1 AD2 AP1 AP2 CE2
            go_cut [11, 12] (fun s11 s12 wx => ∃ g', s11 = .pointer (some ⟨g', 0, none⟩) ∧ s12 = .int .i64 er ∧ Wd.heap.size ≤ g' ∧ Hid (VBox wx g' ⟨uk, ui, us⟩) ∧ Hid (Below Wd.heap.size Wd wx))
            case first =>
              go_region_held_law (fun w' => Below Wd.heap.size Wd w' ∧ w'.cell? ⟨w7.heap.size, 0, none⟩ = some (.string fo) ∧ w'.cell? ⟨w7.heap.size, 1, none⟩ = some (.int .i64 fk) ∧ w'.cell? ⟨w7.heap.size, 2, none⟩ = some (.int .i64 fi) ∧ w'.cell? ⟨w7.heap.size, 3, none⟩ = some (.string fs) ∧ w'.cell? ⟨w7.heap.size, 4, none⟩ = some (.string ft) ∧ w'.cell? ⟨w7.heap.size, 5, none⟩ = some (.string fn) ∧ w'.cell? ⟨w7.heap.size, 6, none⟩ = some (.slice Af fl cf) ∧ True) ((refine KP.out _ ?_; (repeat (first | with_reducible exact BB.out | with_reducible refine bel_drewE ?_ | with_reducible refine bel_allocE ?_ _ | (with_reducible refine bel_setE ?_ ?_ _; focus (first | with_reducible exact VG.out | with_reducible exact BB.out.size | with_reducible exact Nat.le_refl _)))))) ((first
                | (refine step_append_runV (Wd.drew) ?_ (.const (.slice none 0 0)) (.tmp 55) 28 28 ?_ (.slice none 0 0) (.slice B ys.length d) ?_ ?_ hra ?_; rfl; rfl; rfl; rfl; have BB := BA)
                | (refine step_append_runV ((Wd.alloc (.cells #[.int .i64 0, .int .i64 0, .string ⟨#[]⟩] 23)).drew) ?_ (.const (.slice none 0 0)) (.tmp 55) 28 28 ?_ (.slice none 0 0) (.slice B ys.length d) ?_ ?_ hrb ?_; rfl; rfl; rfl; rfl; have BB := BBb)
                | (refine step_append_runV (wa) ?_ (.tmp 56) (.tmp 57) 28 28 ?_ va (.slice A xs.length c) ?_ ?_ hra2 ?_; rfl; rfl; rfl; rfl; have BB := BA2)
                | (refine step_append_runV (wa.alloc (.cells #[.int .i64 0, .int .i64 0, .string ⟨#[]⟩] 23)) ?_ (.tmp 56) (.tmp 57) 28 28 ?_ va (.slice A xs.length c) ?_ ?_ hrc2 ?_; rfl; rfl; rfl; rfl; have BB := BC2)
                | (refine step_append_runV (wb) ?_ (.tmp 56) (.tmp 57) 28 28 ?_ vb (.slice A xs.length c) ?_ ?_ hrb2 ?_; rfl; rfl; rfl; rfl; have BB := BB2)
                | (go_simp; go_at_call 11; first
                  | (with_reducible refine (CA1.out).mono ?_; rintro r w8 ⟨rfl, b8⟩; have BB := Lib.hid (bthen BA2.out b8); clear b8)
                  | (with_reducible refine (CA2.out).mono ?_; rintro r w8 ⟨rfl, b8⟩; have VT := Lib.hid (VBox.later (vnewE wa2 0 0 ⟨#[]⟩) b8); have VG := GWA2; have BB := Lib.hid (bthen BA2.out (bthen ((Below.refl _ _).alloc (Nat.le_refl _) _) b8)); obtain ⟨x0, x1, x2⟩ := VT.out.cells; obtain ⟨y0, y1, y2⟩ := VT.out.free; (try simp only [SC.zV] at x0 x1 x2); clear b8)
                  | (with_reducible refine (CC2.out).mono ?_; rintro r w8 ⟨rfl, b8⟩; have VT := Lib.hid (VBox.later VC.out b8); have VG := GWA; have BB := Lib.hid (bthen BC2.out b8); obtain ⟨x0, x1, x2⟩ := VT.out.cells; obtain ⟨y0, y1, y2⟩ := VT.out.free; (try simp only [SC.zV] at x0 x1 x2); clear b8)
                  | (with_reducible refine (CB2.out).mono ?_; rintro r w8 ⟨rfl, b8⟩; have VT := Lib.hid (VBox.later VB.out b8); have VG := Lib.hid (Nat.le_refl Wd.heap.size); have BB := Lib.hid (bthen BB2.out b8); obtain ⟨x0, x1, x2⟩ := VT.out.cells; obtain ⟨y0, y1, y2⟩ := VT.out.free; (try simp only [SC.zV] at x0 x1 x2); clear b8))))
              all_goals (go_wp2_with fail; go_meet; first | exact ⟨_, rfl, rfl, BB.out.size, vnewE _ uk ui us, bel_allocE BB.out _⟩ | exact ⟨_, rfl, rfl, VG.out, vset VT.out uk ui us, SC.Below.set3 BB.out VG.out _ _ _⟩)
            case rest =>
              obtain ⟨g5, rfl, rfl, hg5, hv5, hb5⟩ := hcut
              obtain ⟨Wx, rfl⟩ : ∃ Wx : World, Wx = wc := ⟨_, rfl⟩
              have BX := Lib.hid (bthen BD.out hb5.out)
              have VX := Lib.hid (VD.out.later hb5.out)
              have VY := Lib.hid hv5.out
              have QX := Lib.hid (QD.out.later hb5.out)
              have SFX := Lib.hid (sub_later SFD.out hb5.out)
              have QE := Lib.hid (Q1.out.later BX.out)
              clear hg5 hv5 hb5 SS KP BB VC VB CA1 CA2 CC2 CB2 GWA GWA2 BA BBb BA2 BC2 BB2 hra hrb hra2 hrc2 hrb2 BDr BDa
              go_upto_region 7 with fail
              have KP := Lib.hid (s14_of VX.out VY.out QX.out QE.out)
              have BB := Lib.hid (Below.refl Wx.heap.size Wx)
              have SS := Lib.hid (KP.out Wx BB.out)
              go_cut [6] (fun s0 wx => s0 = .bool true ∧ Below Wx.heap.size Wx wx)
              case first =>
                go_region_held3 (fun w' => Below Wx.heap.size Wx w' ∧ w'.cell? ⟨w9.heap.size, 0, none⟩ = some (.int .i64 uk) ∧ w'.cell? ⟨w9.heap.size, 1, none⟩ = some (.int .i64 ui) ∧ w'.cell? ⟨w9.heap.size, 2, none⟩ = some (.string us) ∧ w'.cell? ⟨g5, 0, none⟩ = some (.int .i64 uk) ∧ w'.cell? ⟨g5, 1, none⟩ = some (.int .i64 ui) ∧ w'.cell? ⟨g5, 2, none⟩ = some (.string us) ∧ w'.cell? ⟨w7.heap.size, 0, none⟩ = some (.string fo) ∧ w'.cell? ⟨w7.heap.size, 1, none⟩ = some (.int .i64 fk) ∧ w'.cell? ⟨w7.heap.size, 2, none⟩ = some (.int .i64 fi) ∧ w'.cell? ⟨w7.heap.size, 3, none⟩ = some (.string fs) ∧ w'.cell? ⟨w7.heap.size, 4, none⟩ = some (.string ft) ∧ w'.cell? ⟨w7.heap.size, 5, none⟩ = some (.string fn) ∧ w'.cell? ⟨w7.heap.size, 6, none⟩ = some (.slice Af fl cf) ∧ w'.cell? ⟨w.heap.size, 0, none⟩ = some (.string (str e.op)) ∧ w'.cell? ⟨w.heap.size, 1, none⟩ = some (.int .i64 e.v.k) ∧ w'.cell? ⟨w.heap.size, 2, none⟩ = some (.int .i64 e.v.i) ∧ w'.cell? ⟨w.heap.size, 3, none⟩ = some (.string (str e.v.s)) ∧ w'.cell? ⟨w.heap.size, 4, none⟩ = some (.string (str e.tb)) ∧ w'.cell? ⟨w.heap.size, 5, none⟩ = some (.string (str e.nm)) ∧ w'.cell? ⟨w.heap.size, 6, none⟩ = some (.slice A1 e.l.length c1) ∧ True) ((refine KP.out _ ?_; (repeat (first | with_reducible exact BB.out | with_reducible refine bel_drewE ?_ | with_reducible refine bel_allocE ?_ _)))) ((first
                  | (go_at_call 16; go_must (with_reducible refine (CB.out _ _ _ (sub_later SFX.out ?_)).mono ?_); (focus (repeat (first | with_reducible exact BB.out | with_reducible refine bel_drewE ?_ | with_reducible refine bel_allocE ?_ _))); rintro r w10 ⟨Ag, cg, rfl, sy, hb⟩; refine with_fct (bthen (w := Wx) ?_ hb) ?_; (focus (repeat (first | with_reducible exact BB.out | with_reducible refine bel_drewE ?_ | with_reducible refine bel_allocE ?_ _))); intro b6; have BB := Lib.hid b6)
                  | (go_at_call 13; go_must (with_reducible refine (CS.out _ _ _ sy.out (bthen BX.out ?_)).mono ?_); (focus (repeat (first | with_reducible exact BB.out | with_reducible refine bel_drewE ?_ | with_reducible refine bel_allocE ?_ _))); rintro r w10 ⟨rfl, hb⟩; refine with_fct (bthen (w := Wx) ?_ hb) ?_; (focus (repeat (first | with_reducible exact BB.out | with_reducible refine bel_drewE ?_ | with_reducible refine bel_allocE ?_ _))); intro b6; have BB := Lib.hid b6)))
                all_goals (go_wp2_with fail; go_meet; exact ⟨rfl, b6⟩)
              case rest =>
                obtain ⟨rfl, hcb⟩ := hcut
                have BQ := Lib.hid (bthen HB.out (bthen BX.out hcb))
                clear hcb
                go_wp2_with fail
                exact bodyPost_ret (v := .bool true) (by simp [results, Tryz.results5, go_sem]) rfl ⟨rfl, BQ.out⟩
          · have hgt : (60 : Int) < (ys.length : Int) + (xs.length : Int) := by omega
            have hgt2 : ((ys.length : Int) + (xs.length : Int) > 60) := by omega
            clear hle HFC
            (go_wp2_with fail; exact bodyPost_ret (v := .bool true) (by simp [results, Tryz.results5, go_sem]) rfl ⟨rfl, bthen HB.out B6.out⟩)
        · have hrw' : (BV.chkR ys != 0) = true := by simpa using hrw
          clear hrw HFC
          (go_wp2_with fail; exact bodyPost_ret (v := .bool true) (by simp [results, Tryz.results5, go_sem]) rfl ⟨rfl, bthen HB.out B6.out⟩)
      · have hwd' : (chkW xs.length e == 0 && BV.chkR xs == 0) = false := by simpa using hwd
        rw [hwd']
        clear hwd hwd' HFB
        (go_wp2_with fail; exact bodyPost_ret (v := .bool true) (by simp [results, Tryz.results5, go_sem]) rfl ⟨rfl, bthen HB.out B5.out⟩)
    · have hy' : BV.few [⟨B, d, ys⟩] 600 = false := by simpa using hy
      rw [hy']
      clear hy hy' HFB HWD
      (go_wp2_with fail; exact bodyPost_ret (v := .bool true) (by simp [results, Tryz.results5, go_sem]) rfl ⟨rfl, bthen HB.out B4.out⟩)
  · have hok' : (okE e && BV.few [⟨A, c, xs⟩] 600) = false := by simpa using hok
    rw [hok']
    clear hok hok' HWID HFA
    (go_wp2_with fail; exact bodyPost_ret (v := .bool true) (by simp [results, Tryz.results5, go_sem]) rfl ⟨rfl, bthen HB.out B3.out⟩)
theorem moves_lawE (e : E) (x : Value) (S : Nat → Prop) (xs : List BV.V) (A : Option Addr) (c : Nat) (ys : List BV.V) (B : Option Addr) (d : Nat) (w : World) (hx : EAt S w e x) (hr : BV.RowAt w w.heap.size A xs) (hq : BV.RowAt w w.heap.size B ys) (hE : SC.Env w) (hl : xs.length ≤ 140737488355328) (ht : ∀ x ∈ xs, x.s.size ≤ 140737488355328) (hxi : ∀ x ∈ xs, -9223372036854775808 ≤ x.i ∧ x.i ≤ 9223372036854775807) (hl' : ys.length ≤ 140737488355328) (ht' : ∀ x ∈ ys, x.s.size ≤ 140737488355328) (hin : e.ints = true) :
    Calls Tryz.prog 5 #[x, .slice A xs.length c, .slice B ys.length d] w fun q w' => q = .returned (.bool true) ∧ Below w.heap.size w w' := by
  obtain ⟨A1, c1, rfl, hs⟩ := hx
  exact moves_law e S A1 c1 xs A c ys B d w hs hr hq hE hl ht hxi hl' ht' hin
end Go.Proofs.YtcmbdghbicjljaaGreatDoor
