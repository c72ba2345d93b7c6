/- Contracts of the reference's may and Check. Condition: names no longer than a million, no deeper than a million. -/
import Derived.Test.YtcmbdghbicjljaaGreatDoorQ38
import Derived.Test.YtcmbdghbicjljaaGreatDoorQ33
import Derived.Test.YtcmbdghbicjljaaGreatDoorQ09


namespace Go.Proofs.YtcmbdghbicjljaaGreatDoor
open Go.RowKit
theorem op_five (o : List UInt8) : ((o == wLit) = true ∧ (o == wCol) = false ∧ (o == wStar) = false ∧ (o == wCall) = false) ∨ ((o == wLit) = false ∧ (o == wCol) = true ∧ (o == wStar) = false ∧ (o == wCall) = false) ∨
    ((o == wLit) = false ∧ (o == wCol) = false ∧ (o == wStar) = true ∧ (o == wCall) = false) ∨ ((o == wLit) = false ∧ (o == wCol) = false ∧ (o == wStar) = false ∧ (o == wCall) = true) ∨
    ((o == wLit) = false ∧ (o == wCol) = false ∧ (o == wStar) = false ∧ (o == wCall) = false) := by
  by_cases h1 : o = wLit
  · subst h1; decide
  by_cases h2 : o = wCol
  · subst h2; decide
  by_cases h3 : o = wStar
  · subst h3; decide
  by_cases h4 : o = wCall
  · subst h4; decide
  simp [h1, h2, h3, h4]
theorem sub_nilx (S : Nat → Prop) (w : World) (o : List UInt8) (v : Vl) (t n : List UInt8) : Sub S w (.mk o v t n []) none 0 := by simp [Sub]
set_option maxRecDepth 100000 in
set_option maxHeartbeats 16000000 in
theorem rMay_any (e : E) : ∀ (x : Value) (S : Nat → Prop) (w : World), EAt S w e x → e.sn = true → Calls Tryz.prog 79 #[x] w fun r w' => r = .returned (.bool e.may) ∧ Below w.heap.size w w' := by
  induction e using E.ind with
  | h o v t n l ih =>
    rintro x S w hx hsn
    have HP0 := fun W (hb : Below w.heap.size w W) => rParts _ x S W (hx.later hb)
    obtain ⟨A, c, rfl, hsub⟩ := hx
    obtain ⟨hlc, hcm, hmem⟩ := hsub
    have hm : l.length ≤ 9223372036854775807 := Nat.le_trans hlc hcm
    simp only [E.sn, Bool.and_eq_true, decide_eq_true_eq] at hsn
    obtain ⟨⟨ht, hn⟩, hl⟩ := hsn
    have HI := Lib.hid (fun (k : Nat) (hk : k < l.length) (x : Value) (w : World) (hx : EAt S w l[k] x) => ih l[k] (List.getElem_mem hk) x S w hx (snL_get hl k hk))
    rw [rmay_eq _ _ _ _ _ hm]
    have HL : Hid (∀ k (hk : k < l.length), E.mayL (l.drop k) = (l[k].may && E.mayL (l.drop (k + 1)))) := Lib.hid fun k hk => by rw [List.drop_eq_getElem_cons hk]; simp only [E.mayL]
    have HR : Hid (E.mayL (l.drop 0) = E.mayL l) := Lib.hid (by rw [List.drop_zero])
    have HV0 := fun w => BV.rsame_any v.k v.i 0 0 (str v.s) ⟨#[]⟩ w
    rw [show BV.sameB v.k v.i (str v.s) 0 0 ⟨#[]⟩ = (v == v0) from sameB_v v v0] at HV0
    have HV := Lib.hid HV0
    have HC0 := fun w => BV.rcheck_any v.k v.i (str v.s) w
    rw [show BV.chkI v.k v.i (str v.s) = if v.may then 0 else 1 from rfl] at HC0
    have HCk := Lib.hid HC0
    have HN0 := fun w => rIsName_any (str n) w (by rw [str_size]; omega)
    have HT0 := fun (h : (o == wCol) = true) w => rIsName_any (str t) w (by rw [str_size]; have := ht (by simpa using h); omega)
    rw [str_list] at HN0
    simp only [str_list] at HT0
    have HN := Lib.hid HN0
    have HT := Lib.hid HT0
    simp only [E.op, E.v, E.tb, E.nm, E.l, eVal] at *
    have HP := Lib.hid HP0
    have eL : ((str o).toList == [108, 105, 116]) = (o == wLit) := by rw [Lib.toList_data, str_list]; rfl
    have eL' : ((str o).toList != [108, 105, 116]) = !(o == wLit) := by rw [bne, eL]
    have eC : ((str o).toList == [99, 111, 108]) = (o == wCol) := by rw [Lib.toList_data, str_list]; rfl
    have eC' : ((str o).toList != [99, 111, 108]) = !(o == wCol) := by rw [bne, eC]
    have eS : ((str o).toList == [115, 116, 97, 114]) = (o == wStar) := by rw [Lib.toList_data, str_list]; rfl
    have eA : ((str o).toList == [99, 97, 108, 108]) = (o == wCall) := by rw [Lib.toList_data, str_list]; rfl
    have et : ((str t).toList == []) = (t == []) := by rw [Lib.toList_data, str_list]
    have et' : ((str t).toList != []) = !(t == []) := by rw [bne, et]
    have en : ((str n).toList == []) = (n == []) := by rw [Lib.toList_data, str_list]
    have en' : ((str n).toList != []) = !(n == []) := by rw [bne, en]
    have ec : ((str n).toList == [99, 111, 117, 110, 116]) = (n == wCount) := by rw [Lib.toList_data, str_list]; rfl
    have hsi : starIn n l = (n == wCount && (l.length == 1 && (l.headD e0).op == wStar)) := rfl
    have h1e : (l.length == 1) = decide (l.length = 1) := by by_cases h : l.length = 1 <;> simp [h]
    rw [h1e] at hsi
    have HSI := Lib.hid hsi
    have h5 := op_five o
    have HSS := Lib.hid (fun (h : l.length = 1) W (hb : Below w.heap.size w W) => (⟨fun x y (hx : EAt S W (l.headD e0) x) (hy : EAt (fun _ => True) W star y) => rSame_any _ star x y S _ W hx hy, trivial⟩ : (∀ x y, EAt S W (l.headD e0) x → EAt (fun _ => True) W star y → Calls Tryz.prog 13 #[x, y] W fun r w' => r = .returned (.bool ((l.headD e0).same star)) ∧ Below W.heap.size W w') ∧ True))
    generalize starIn n l = si at *
    generalize E.mayL l = ml at *
    generalize (l.headD e0).same star = ss at *
    generalize rparts o l.length = pr at *
    generalize hpL : (o == wLit) = pL at *
    generalize hpC : (o == wCol) = pC at *
    generalize hpS : (o == wStar) = pS at *
    generalize hpA : (o == wCall) = pA at *
    generalize (v == v0) = pv at *
    generalize (t == []) = pt at *
    generalize (n == []) = pn at *
    generalize (n == wCount) = pcn at *
    generalize v.may = vm at *
    generalize nameB n = nb at *
    generalize nameB t = tb at *
    clear hpL hpC hpS hpA HP0 HV0 HC0 HN0 HT0 hsi h1e ih hl ht hn
    generalize str o = bo at *
    generalize str t = bt at *
    generalize str n = bn at *
    generalize str v.s = bs at *
    generalize v.k = vk at *
    generalize v.i = vi at *
    obtain ⟨W1, hW1, q1, z1, r1⟩ := box7 w (.string bo) (.int .i64 vk) (.int .i64 vi) (.string bs) (.string bt) (.string bn) (.slice A l.length c)
    have HM := Lib.hid hmem
    have HW1 := Lib.hid hW1
    have HB1 := Lib.hid r1
    have HQ1 := Lib.hid q1
    obtain ⟨a0, a1, a2, a3, a4, a5, a6⟩ := q1.cells
    clear hmem hlc hcm hW1 z1 r1 q1
    go_enter Tryz.func79, Tryz.ntmps79
    go_wp2_with (rw [← HW1.out])
    refine (HP.out _ HB1.out).mono ?_
    rintro r w2 ⟨rfl, b2⟩
    have HB2 := Lib.hid (bthen HB1.out b2)
    have q2 := HQ1.out.later b2
    have HQ2 := Lib.hid q2
    obtain ⟨a0, a1, a2, a3, a4, a5, a6⟩ := q2.cells
    clear b2 q2 HQ1 HP HB1 HW1
    cases pr
    · go_wp2_with fail
      go_ret
      exact ⟨rfl, HB2.out⟩
    rcases h5 with ⟨rfl, rfl, rfl, rfl⟩ | ⟨rfl, rfl, rfl, rfl⟩ | ⟨rfl, rfl, rfl, rfl⟩ | ⟨rfl, rfl, rfl, rfl⟩ | ⟨rfl, rfl, rfl, rfl⟩
    · -- a value
      clear HI HL HR HV HN HT HM HSS HSI
      cases pt
      · go_wp2_with fail
        go_ret
        exact ⟨rfl, HB2.out⟩
      go_wp2_with fail
      refine (HCk.out _).mono ?_
      rintro r w3 ⟨rfl, b3⟩
      have HB3 := Lib.hid (bthen HB2.out b3)
      have q3 := HQ2.out.later b3
      obtain ⟨a0, a1, a2, a3, a4, a5, a6⟩ := q3.cells
      clear b3 q3 HQ2 HCk HB2
      cases vm
      · simp only [Bool.false_eq_true, if_false]
        go_wp2_with fail
        go_ret
        exact ⟨rfl, HB3.out⟩
      · simp only [if_true]
        cases pn
        · go_wp2_with fail
          go_ret
          exact ⟨rfl, HB3.out⟩
        · go_wp2_with fail
          go_ret
          exact ⟨rfl, HB3.out⟩
    · -- a column
      clear HI HL HR HM HSS HSI HCk
      go_wp2_with fail
      refine (HV.out _).mono ?_
      rintro r w3 ⟨rfl, b3⟩
      have HB3 := Lib.hid (bthen HB2.out b3)
      have q3 := HQ2.out.later b3
      have HQ3 := Lib.hid q3
      obtain ⟨a0, a1, a2, a3, a4, a5, a6⟩ := q3.cells
      clear b3 q3 HQ2 HV HB2
      cases pv
      · go_wp2_with fail
        go_ret
        exact ⟨rfl, HB3.out⟩
      go_wp2_with fail
      refine (HN.out _).mono ?_
      rintro r w4 ⟨rfl, b4⟩
      have HB4 := Lib.hid (bthen HB3.out b4)
      have q4 := HQ3.out.later b4
      have HQ4 := Lib.hid q4
      obtain ⟨a0, a1, a2, a3, a4, a5, a6⟩ := q4.cells
      clear b4 q4 HQ3 HN HB3
      cases nb
      · go_wp2_with fail
        go_ret
        exact ⟨rfl, HB4.out⟩
      cases pt
      · go_wp2_with fail
        refine (HT.out (by trivial) _).mono ?_
        rintro r w5 ⟨rfl, b5⟩
        have HB5 := Lib.hid (bthen HB4.out b5)
        clear b5 HQ4
        go_wp2_with fail
        go_ret
        exact ⟨by simp [rmayB], HB5.out⟩
      · go_wp2_with fail
        go_ret
        exact ⟨rfl, HB4.out⟩
    · -- a star
      clear HI HL HR HM HSS HSI HCk HN HT
      go_wp2_with fail
      refine (HV.out _).mono ?_
      rintro r w3 ⟨rfl, b3⟩
      have HB3 := Lib.hid (bthen HB2.out b3)
      have q3 := HQ2.out.later b3
      obtain ⟨a0, a1, a2, a3, a4, a5, a6⟩ := q3.cells
      clear b3 q3 HQ2 HV HB2
      cases pv
      · go_wp2_with fail
        go_ret
        exact ⟨rfl, HB3.out⟩
      cases pt
      · go_wp2_with fail
        go_ret
        exact ⟨rfl, HB3.out⟩
      · go_wp2_with fail
        go_ret
        exact ⟨rfl, HB3.out⟩
    · -- a call
      clear HT HCk
      go_wp2_with fail
      refine (HV.out _).mono ?_
      rintro r w3 ⟨rfl, b3⟩
      have HB3 := Lib.hid (bthen HB2.out b3)
      have q3 := HQ2.out.later b3
      have HQ3 := Lib.hid q3
      obtain ⟨a0, a1, a2, a3, a4, a5, a6⟩ := q3.cells
      clear b3 q3 HQ2 HV HB2
      cases pv
      · go_wp2_with fail
        go_ret
        exact ⟨rfl, HB3.out⟩
      cases pt
      · go_wp2_with fail
        go_ret
        exact ⟨rfl, HB3.out⟩
      go_wp2_with fail
      refine (HN.out _).mono ?_
      rintro r w4 ⟨rfl, b4⟩
      have HB4 := Lib.hid (bthen HB3.out b4)
      have q4 := HQ3.out.later b4
      have HQ4 := Lib.hid q4
      obtain ⟨a0, a1, a2, a3, a4, a5, a6⟩ := q4.cells
      clear b4 q4 HQ3 HN HB3
      cases nb
      · go_wp2_with fail
        go_ret
        exact ⟨rfl, HB4.out⟩
      by_cases hst : pcn = true ∧ l.length = 1 ∧ (l.headD e0).op = wStar
      · obtain ⟨rfl, hl1, hop⟩ := hst
        have hsi : si = true := by rw [HSI.out, hl1, hop]; rfl
        subst hsi
        obtain ⟨y, rfl⟩ := list_one hl1
        obtain ⟨g, off, rfl, hS, hg, hl⟩ := HM.out (by omega)
        obtain ⟨A', c', ⟨g0, g1, g2, g3, g4, g5, g6⟩, hs⟩ := hl.get 0 (by simp)
        simp only [List.getElem_cons_zero, List.headD_cons, Nat.zero_mul, Nat.add_zero, List.length_singleton] at *
        have i0 := (HB4.out.cell (p := ⟨g, off, none⟩) hg).trans g0
        have i1 := (HB4.out.cell (p := ⟨g, off + 1, none⟩) hg).trans g1
        have i2 := (HB4.out.cell (p := ⟨g, off + 2, none⟩) hg).trans g2
        have i3 := (HB4.out.cell (p := ⟨g, off + 3, none⟩) hg).trans g3
        have i4 := (HB4.out.cell (p := ⟨g, off + 4, none⟩) hg).trans g4
        have i5 := (HB4.out.cell (p := ⟨g, off + 5, none⟩) hg).trans g5
        have i6 := (HB4.out.cell (p := ⟨g, off + 6, none⟩) hg).trans g6
        have hE : EAt S w y (eVal y.op y.v y.tb y.nm (.slice A' y.l.length c')) := ⟨A', c', rfl, hs⟩
        have ey : ((str y.op).toList == [115, 116, 97, 114]) = true := by rw [Lib.toList_data, str_list, hop]; rfl
        obtain ⟨W5, hW5, q5, z5, r5⟩ := box7 w4 (.string (str y.op)) (.int .i64 y.v.k) (.int .i64 y.v.i) (.string (str y.v.s)) (.string (str y.tb)) (.string (str y.nm)) (.slice A' y.l.length c')
        have HW5 := Lib.hid hW5
        have HE5 := Lib.hid ((hE.later HB4.out).later r5)
        have HB5 := Lib.hid (bthen HB4.out r5)
        have HQ5 := Lib.hid q5
        have HSM := Lib.hid (fun W (hb : Below w.heap.size w W) (x y : Value) hx hy => (HSS.out trivial W hb).1 x y hx hy)
        unfold eVal at HE5
        generalize str y.op = bo' at *
        generalize str y.tb = bt' at *
        generalize str y.nm = bn' at *
        generalize str y.v.s = bs' at *
        generalize y.v.k = vk' at *
        generalize y.v.i = vi' at *
        generalize y.l.length = ln' at *
        clear hW5 q5 z5 r5 hE hs hl g0 g1 g2 g3 g4 g5 g6 HSS HI HL HR HM HSI
        go_wp2_with (rw [← HW5.out])
        have HNE : Nonempty (LTx W5) := ⟨⟨W5, Below.refl _ _⟩⟩
        have F5 := fun x : LTx W5 => (HQ5.out.later x.2).cells
        have f0 : ∀ x : LTx W5, x.1.cell? ⟨w4.heap.size, 0, none⟩ = some (.string bo') := fun x => (F5 x).1
        have f1 : ∀ x : LTx W5, x.1.cell? ⟨w4.heap.size, 1, none⟩ = some (.int .i64 vk') := fun x => (F5 x).2.1
        have f2 : ∀ x : LTx W5, x.1.cell? ⟨w4.heap.size, 2, none⟩ = some (.int .i64 vi') := fun x => (F5 x).2.2.1
        have f3 : ∀ x : LTx W5, x.1.cell? ⟨w4.heap.size, 3, none⟩ = some (.string bs') := fun x => (F5 x).2.2.2.1
        have f4 : ∀ x : LTx W5, x.1.cell? ⟨w4.heap.size, 4, none⟩ = some (.string bt') := fun x => (F5 x).2.2.2.2.1
        have f5 : ∀ x : LTx W5, x.1.cell? ⟨w4.heap.size, 5, none⟩ = some (.string bn') := fun x => (F5 x).2.2.2.2.2.1
        have f6 : ∀ x : LTx W5, x.1.cell? ⟨w4.heap.size, 6, none⟩ = some (.slice A' ln' c') := fun x => (F5 x).2.2.2.2.2.2
        clear F5
        refine wp_region_classx (fun w' => ∃ x : LTx W5, w' = x.1) (by kernel_rfl) (by kernel_rfl) ⟨⟨_, (Below.refl W5.heap.size W5).drew⟩, rfl⟩ ?_
        repeat (go_big_quiet_step ((rename_i x; first | (go_at_call 21; refine (rOp1 _ _ _ _ _).mono ?_; rintro e w2 ⟨rfl, hb⟩; exact ⟨rfl, ⟨_, bthen x.2 hb⟩, rfl⟩) | (go_at_call 13; refine (HSM.out _ (bthen HB5.out x.2) _ _ (HE5.out.later x.2) ⟨none, 0, rfl, sub_nilx _ _ _ _ _ _⟩).mono ?_; rintro e w2 ⟨rfl, hb⟩; exact ⟨rfl, ⟨_, bthen x.2 hb⟩, rfl⟩))))
        refine wpQuiet_nil ?_
        rintro _ ⟨x9, rfl⟩
        go_wp2_with fail
        go_ret
        exact ⟨rfl, bthen HB5.out x9.2⟩
      · have hsi : si = false := by
          rw [HSI.out, ← Bool.not_eq_true]
          intro h
          simp only [Bool.and_eq_true, decide_eq_true_eq, beq_iff_eq] at h
          exact hst h
        subst hsi
        by_cases hp : pcn = true
        · subst hp
          by_cases hl1 : l.length = 1
          · have hop : (l.headD e0).op ≠ wStar := fun h => hst ⟨rfl, hl1, h⟩
            obtain ⟨y, hy⟩ := list_one hl1
            obtain ⟨g, off, rfl, hS, hg, hl⟩ := HM.out (by omega)
            have hy0 : l[0]'(by omega) = y := by subst hy; rfl
            obtain ⟨A', c', ⟨g0, -, -, -, -, -, -⟩, -⟩ := hl.get 0 (by omega)
            rw [hy0] at g0
            have hyo : y.op ≠ wStar := by rw [hy] at hop; exact hop
            rw [Nat.zero_mul, Nat.add_zero] at g0
            have i0 := (HB4.out.cell (p := ⟨g, off, none⟩) hg).trans g0
            have ey : ((str y.op).toList == [115, 116, 97, 114]) = false := by rw [Lib.toList_data, str_list]; simpa [wStar] using hyo
            have hlz : (l.length : Int) = 1 := by omega
            generalize str y.op = bo' at *
            clear HSS HSI hst hy hy0 hyo hop g0 hl
            go_wp2_with fail
            go_loopw [97] (fun iv wr => ∃ (k : Nat), k ≤ l.length ∧ iv = .int .i64 k ∧ Hid (E.mayL (l.drop k) = ml) ∧ Hid (Below w.heap.size w wr)) (fun iv _ => l.length - (intOf iv).toNat)
            case atStart => exact ⟨0, by omega, rfl, HR, HB4⟩
            case round =>
              obtain ⟨k, hk, rfl, HK, HB⟩ := hrel
              by_cases hlt : k < l.length
              · obtain ⟨g, off, hA2, hS, hg, hl⟩ := HM.out (by omega)
                simp at hA2
                obtain ⟨hA3, hA4⟩ := hA2
                replace hA3 := hA3.symm
                replace hA4 := hA4.symm
                subst hA3
                subst hA4
                obtain ⟨A', c', ⟨g0, g1, g2, g3, g4, g5, g6⟩, hs⟩ := hl.get k hlt
                have hkz : (k : Int) < (l.length : Int) := by omega
                have z := HB.out.size
                have i0 := (HB.out.cell (p := ⟨g, off + k * 7, none⟩) hg).trans g0
                have i1 := (HB.out.cell (p := ⟨g, off + k * 7 + 1, none⟩) hg).trans g1
                have i2 := (HB.out.cell (p := ⟨g, off + k * 7 + 2, none⟩) hg).trans g2
                have i3 := (HB.out.cell (p := ⟨g, off + k * 7 + 3, none⟩) hg).trans g3
                have i4 := (HB.out.cell (p := ⟨g, off + k * 7 + 4, none⟩) hg).trans g4
                have i5 := (HB.out.cell (p := ⟨g, off + k * 7 + 5, none⟩) hg).trans g5
                have i6 := (HB.out.cell (p := ⟨g, off + k * 7 + 6, none⟩) hg).trans g6
                obtain ⟨X1, X, hX1, hX, b1, b2, hz, hb1, hb2⟩ := made7 wr (.string (str l[k].op)) (.int .i64 l[k].v.k) (.int .i64 l[k].v.i) (.string (str l[k].v.s)) (.string (str l[k].tb)) (.string (str l[k].nm)) (.slice A' l[k].l.length c')
                have f1 := b1.free
                have y1 := b2.cells
                obtain ⟨p10, p11, p12, p13, p14, p15, p16⟩ := b1.cells
                have hE : EAt S X l[k] (eVal l[k].op l[k].v l[k].tb l[k].nm (.slice A' l[k].l.length c')) := by
                  have h0 : EAt S w l[k] (eVal l[k].op l[k].v l[k].tb l[k].nm (.slice A' l[k].l.length c')) := ⟨A', c', rfl, hs⟩
                  exact (h0.later HB.out).later hb2
                have HC := Lib.hid (HI.out k hlt _ X hE)
                have hKK := HL.out k hlt
                rw [HK.out] at hKK
                have HKK := Lib.hid hKK
                have HBX := Lib.hid (bthen HB.out hb2)
                have HX1 := Lib.hid hX1
                have HX := Lib.hid hX
                obtain ⟨f10, f11, f12, f13, f14, f15, f16⟩ := f1
                obtain ⟨y10, y11, y12, y13, y14, y15, y16⟩ := y1
                unfold eVal at HC
                generalize str l[k].op = bo' at *
                generalize str l[k].tb = bt' at *
                generalize str l[k].nm = bn' at *
                generalize str l[k].v.s = bs' at *
                generalize l[k].v.k = vk' at *
                generalize l[k].v.i = vi' at *
                generalize l[k].l.length = ln' at *
                generalize hdp : l[k].may = Q at *
                clear hX1 hX hs hl hE g0 g1 g2 g3 g4 g5 g6 b1 b2 hb1 hb2 HB HI HM hdp HK HR HL hKK
                cases Q
                · go_wp2_with (first | (rw [← HX.out]) | (rw [← HX1.out]))
                  refine (HC.out).mono ?_
                  rintro e w9 ⟨rfl, b9⟩
                  have hRR := HKK.out
                  rw [Bool.false_and] at hRR
                  subst hRR
                  go_wp2_with fail
                  go_ret
                  exact ⟨rfl, bthen HBX.out b9⟩
                · go_wp2_with (first | (rw [← HX.out]) | (rw [← HX1.out]))
                  refine (HC.out).mono ?_
                  rintro e w9 ⟨rfl, b9⟩
                  go_wp2_with fail
                  go_roundw
                  case measure => simp [intOf]; omega
                  case rel => exact ⟨k + 1, by omega, by go_num, Lib.hid (by rw [HKK.out, Bool.true_and]), bthen HBX.out b9⟩
              · have hke : k = l.length := by omega
                have hkz : ¬ (k : Int) < (l.length : Int) := by omega
                subst hke
                have hKK := HK.out
                rw [List.drop_length] at hKK
                simp only [E.mayL] at hKK
                subst hKK
                clear HM HI HL HR HK
                go_wp2_with fail
                go_ret
                exact ⟨rfl, HB.out⟩
          · have hlz : ((l.length : Int) == 1) = false := by simpa using (show ¬ (l.length : Int) = 1 by omega)
            clear HSS HSI hst
            go_wp2_with fail
            go_loopw [97] (fun iv wr => ∃ (k : Nat), k ≤ l.length ∧ iv = .int .i64 k ∧ Hid (E.mayL (l.drop k) = ml) ∧ Hid (Below w.heap.size w wr)) (fun iv _ => l.length - (intOf iv).toNat)
            case atStart => exact ⟨0, by omega, rfl, HR, HB4⟩
            case round =>
              obtain ⟨k, hk, rfl, HK, HB⟩ := hrel
              by_cases hlt : k < l.length
              · obtain ⟨g, off, rfl, hS, hg, hl⟩ := HM.out (by omega)
                obtain ⟨A', c', ⟨g0, g1, g2, g3, g4, g5, g6⟩, hs⟩ := hl.get k hlt
                have hkz : (k : Int) < (l.length : Int) := by omega
                have z := HB.out.size
                have i0 := (HB.out.cell (p := ⟨g, off + k * 7, none⟩) hg).trans g0
                have i1 := (HB.out.cell (p := ⟨g, off + k * 7 + 1, none⟩) hg).trans g1
                have i2 := (HB.out.cell (p := ⟨g, off + k * 7 + 2, none⟩) hg).trans g2
                have i3 := (HB.out.cell (p := ⟨g, off + k * 7 + 3, none⟩) hg).trans g3
                have i4 := (HB.out.cell (p := ⟨g, off + k * 7 + 4, none⟩) hg).trans g4
                have i5 := (HB.out.cell (p := ⟨g, off + k * 7 + 5, none⟩) hg).trans g5
                have i6 := (HB.out.cell (p := ⟨g, off + k * 7 + 6, none⟩) hg).trans g6
                obtain ⟨X1, X, hX1, hX, b1, b2, hz, hb1, hb2⟩ := made7 wr (.string (str l[k].op)) (.int .i64 l[k].v.k) (.int .i64 l[k].v.i) (.string (str l[k].v.s)) (.string (str l[k].tb)) (.string (str l[k].nm)) (.slice A' l[k].l.length c')
                have f1 := b1.free
                have y1 := b2.cells
                obtain ⟨p10, p11, p12, p13, p14, p15, p16⟩ := b1.cells
                have hE : EAt S X l[k] (eVal l[k].op l[k].v l[k].tb l[k].nm (.slice A' l[k].l.length c')) := by
                  have h0 : EAt S w l[k] (eVal l[k].op l[k].v l[k].tb l[k].nm (.slice A' l[k].l.length c')) := ⟨A', c', rfl, hs⟩
                  exact (h0.later HB.out).later hb2
                have HC := Lib.hid (HI.out k hlt _ X hE)
                have hKK := HL.out k hlt
                rw [HK.out] at hKK
                have HKK := Lib.hid hKK
                have HBX := Lib.hid (bthen HB.out hb2)
                have HX1 := Lib.hid hX1
                have HX := Lib.hid hX
                obtain ⟨f10, f11, f12, f13, f14, f15, f16⟩ := f1
                obtain ⟨y10, y11, y12, y13, y14, y15, y16⟩ := y1
                unfold eVal at HC
                generalize str l[k].op = bo' at *
                generalize str l[k].tb = bt' at *
                generalize str l[k].nm = bn' at *
                generalize str l[k].v.s = bs' at *
                generalize l[k].v.k = vk' at *
                generalize l[k].v.i = vi' at *
                generalize l[k].l.length = ln' at *
                generalize hdp : l[k].may = Q at *
                clear hX1 hX hs hl hE g0 g1 g2 g3 g4 g5 g6 b1 b2 hb1 hb2 HB HI HM hdp HK HR HL hKK
                cases Q
                · go_wp2_with (first | (rw [← HX.out]) | (rw [← HX1.out]))
                  refine (HC.out).mono ?_
                  rintro e w9 ⟨rfl, b9⟩
                  have hRR := HKK.out
                  rw [Bool.false_and] at hRR
                  subst hRR
                  go_wp2_with fail
                  go_ret
                  exact ⟨rfl, bthen HBX.out b9⟩
                · go_wp2_with (first | (rw [← HX.out]) | (rw [← HX1.out]))
                  refine (HC.out).mono ?_
                  rintro e w9 ⟨rfl, b9⟩
                  go_wp2_with fail
                  go_roundw
                  case measure => simp [intOf]; omega
                  case rel => exact ⟨k + 1, by omega, by go_num, Lib.hid (by rw [HKK.out, Bool.true_and]), bthen HBX.out b9⟩
              · have hke : k = l.length := by omega
                have hkz : ¬ (k : Int) < (l.length : Int) := by omega
                subst hke
                have hKK := HK.out
                rw [List.drop_length] at hKK
                simp only [E.mayL] at hKK
                subst hKK
                clear HM HI HL HR HK
                go_wp2_with fail
                go_ret
                exact ⟨rfl, HB.out⟩
        · have hp' : pcn = false := by simpa using hp
          subst hp'
          clear HSS HSI hst
          go_wp2_with fail
          go_loopw [97] (fun iv wr => ∃ (k : Nat), k ≤ l.length ∧ iv = .int .i64 k ∧ Hid (E.mayL (l.drop k) = ml) ∧ Hid (Below w.heap.size w wr)) (fun iv _ => l.length - (intOf iv).toNat)
          case atStart => exact ⟨0, by omega, rfl, HR, HB4⟩
          case round =>
            obtain ⟨k, hk, rfl, HK, HB⟩ := hrel
            by_cases hlt : k < l.length
            · obtain ⟨g, off, rfl, hS, hg, hl⟩ := HM.out (by omega)
              obtain ⟨A', c', ⟨g0, g1, g2, g3, g4, g5, g6⟩, hs⟩ := hl.get k hlt
              have hkz : (k : Int) < (l.length : Int) := by omega
              have z := HB.out.size
              have i0 := (HB.out.cell (p := ⟨g, off + k * 7, none⟩) hg).trans g0
              have i1 := (HB.out.cell (p := ⟨g, off + k * 7 + 1, none⟩) hg).trans g1
              have i2 := (HB.out.cell (p := ⟨g, off + k * 7 + 2, none⟩) hg).trans g2
              have i3 := (HB.out.cell (p := ⟨g, off + k * 7 + 3, none⟩) hg).trans g3
              have i4 := (HB.out.cell (p := ⟨g, off + k * 7 + 4, none⟩) hg).trans g4
              have i5 := (HB.out.cell (p := ⟨g, off + k * 7 + 5, none⟩) hg).trans g5
              have i6 := (HB.out.cell (p := ⟨g, off + k * 7 + 6, none⟩) hg).trans g6
              obtain ⟨X1, X, hX1, hX, b1, b2, hz, hb1, hb2⟩ := made7 wr (.string (str l[k].op)) (.int .i64 l[k].v.k) (.int .i64 l[k].v.i) (.string (str l[k].v.s)) (.string (str l[k].tb)) (.string (str l[k].nm)) (.slice A' l[k].l.length c')
              have f1 := b1.free
              have y1 := b2.cells
              obtain ⟨p10, p11, p12, p13, p14, p15, p16⟩ := b1.cells
              have hE : EAt S X l[k] (eVal l[k].op l[k].v l[k].tb l[k].nm (.slice A' l[k].l.length c')) := by
                have h0 : EAt S w l[k] (eVal l[k].op l[k].v l[k].tb l[k].nm (.slice A' l[k].l.length c')) := ⟨A', c', rfl, hs⟩
                exact (h0.later HB.out).later hb2
              have HC := Lib.hid (HI.out k hlt _ X hE)
              have hKK := HL.out k hlt
              rw [HK.out] at hKK
              have HKK := Lib.hid hKK
              have HBX := Lib.hid (bthen HB.out hb2)
              have HX1 := Lib.hid hX1
              have HX := Lib.hid hX
              obtain ⟨f10, f11, f12, f13, f14, f15, f16⟩ := f1
              obtain ⟨y10, y11, y12, y13, y14, y15, y16⟩ := y1
              unfold eVal at HC
              generalize str l[k].op = bo' at *
              generalize str l[k].tb = bt' at *
              generalize str l[k].nm = bn' at *
              generalize str l[k].v.s = bs' at *
              generalize l[k].v.k = vk' at *
              generalize l[k].v.i = vi' at *
              generalize l[k].l.length = ln' at *
              generalize hdp : l[k].may = Q at *
              clear hX1 hX hs hl hE g0 g1 g2 g3 g4 g5 g6 b1 b2 hb1 hb2 HB HI HM hdp HK HR HL hKK
              cases Q
              · go_wp2_with (first | (rw [← HX.out]) | (rw [← HX1.out]))
                refine (HC.out).mono ?_
                rintro e w9 ⟨rfl, b9⟩
                have hRR := HKK.out
                rw [Bool.false_and] at hRR
                subst hRR
                go_wp2_with fail
                go_ret
                exact ⟨rfl, bthen HBX.out b9⟩
              · go_wp2_with (first | (rw [← HX.out]) | (rw [← HX1.out]))
                refine (HC.out).mono ?_
                rintro e w9 ⟨rfl, b9⟩
                go_wp2_with fail
                go_roundw
                case measure => simp [intOf]; omega
                case rel => exact ⟨k + 1, by omega, by go_num, Lib.hid (by rw [HKK.out, Bool.true_and]), bthen HBX.out b9⟩
            · have hke : k = l.length := by omega
              have hkz : ¬ (k : Int) < (l.length : Int) := by omega
              subst hke
              have hKK := HK.out
              rw [List.drop_length] at hKK
              simp only [E.mayL] at hKK
              subst hKK
              clear HM HI HL HR HK
              go_wp2_with fail
              go_ret
              exact ⟨rfl, HB.out⟩
    · -- any other
      clear HSS HSI HN HT HCk
      go_wp2_with fail
      refine (HV.out _).mono ?_
      rintro r w4 ⟨rfl, b4⟩
      have HB4 := Lib.hid (bthen HB2.out b4)
      have q4 := HQ2.out.later b4
      obtain ⟨a0, a1, a2, a3, a4, a5, a6⟩ := q4.cells
      clear b4 q4 HQ2 HV HB2
      cases pv
      · go_wp2_with fail
        go_ret
        exact ⟨rfl, HB4.out⟩
      cases pt
      · go_wp2_with fail
        go_ret
        exact ⟨rfl, HB4.out⟩
      cases pn
      · go_wp2_with fail
        go_ret
        exact ⟨rfl, HB4.out⟩
      go_wp2_with fail
      go_loopw [97] (fun iv wr => ∃ (k : Nat), k ≤ l.length ∧ iv = .int .i64 k ∧ Hid (E.mayL (l.drop k) = ml) ∧ Hid (Below w.heap.size w wr)) (fun iv _ => l.length - (intOf iv).toNat)
      case atStart => exact ⟨0, by omega, rfl, HR, HB4⟩
      case round =>
        obtain ⟨k, hk, rfl, HK, HB⟩ := hrel
        by_cases hlt : k < l.length
        · obtain ⟨g, off, rfl, hS, hg, hl⟩ := HM.out (by omega)
          obtain ⟨A', c', ⟨g0, g1, g2, g3, g4, g5, g6⟩, hs⟩ := hl.get k hlt
          have hkz : (k : Int) < (l.length : Int) := by omega
          have z := HB.out.size
          have i0 := (HB.out.cell (p := ⟨g, off + k * 7, none⟩) hg).trans g0
          have i1 := (HB.out.cell (p := ⟨g, off + k * 7 + 1, none⟩) hg).trans g1
          have i2 := (HB.out.cell (p := ⟨g, off + k * 7 + 2, none⟩) hg).trans g2
          have i3 := (HB.out.cell (p := ⟨g, off + k * 7 + 3, none⟩) hg).trans g3
          have i4 := (HB.out.cell (p := ⟨g, off + k * 7 + 4, none⟩) hg).trans g4
          have i5 := (HB.out.cell (p := ⟨g, off + k * 7 + 5, none⟩) hg).trans g5
          have i6 := (HB.out.cell (p := ⟨g, off + k * 7 + 6, none⟩) hg).trans g6
          obtain ⟨X1, X, hX1, hX, b1, b2, hz, hb1, hb2⟩ := made7 wr (.string (str l[k].op)) (.int .i64 l[k].v.k) (.int .i64 l[k].v.i) (.string (str l[k].v.s)) (.string (str l[k].tb)) (.string (str l[k].nm)) (.slice A' l[k].l.length c')
          have f1 := b1.free
          have y1 := b2.cells
          obtain ⟨p10, p11, p12, p13, p14, p15, p16⟩ := b1.cells
          have hE : EAt S X l[k] (eVal l[k].op l[k].v l[k].tb l[k].nm (.slice A' l[k].l.length c')) := by
            have h0 : EAt S w l[k] (eVal l[k].op l[k].v l[k].tb l[k].nm (.slice A' l[k].l.length c')) := ⟨A', c', rfl, hs⟩
            exact (h0.later HB.out).later hb2
          have HC := Lib.hid (HI.out k hlt _ X hE)
          have hKK := HL.out k hlt
          rw [HK.out] at hKK
          have HKK := Lib.hid hKK
          have HBX := Lib.hid (bthen HB.out hb2)
          have HX1 := Lib.hid hX1
          have HX := Lib.hid hX
          obtain ⟨f10, f11, f12, f13, f14, f15, f16⟩ := f1
          obtain ⟨y10, y11, y12, y13, y14, y15, y16⟩ := y1
          unfold eVal at HC
          generalize str l[k].op = bo' at *
          generalize str l[k].tb = bt' at *
          generalize str l[k].nm = bn' at *
          generalize str l[k].v.s = bs' at *
          generalize l[k].v.k = vk' at *
          generalize l[k].v.i = vi' at *
          generalize l[k].l.length = ln' at *
          generalize hdp : l[k].may = Q at *
          clear hX1 hX hs hl hE g0 g1 g2 g3 g4 g5 g6 b1 b2 hb1 hb2 HB HI HM hdp HK HR HL hKK
          cases Q
          · go_wp2_with (first | (rw [← HX.out]) | (rw [← HX1.out]))
            refine (HC.out).mono ?_
            rintro e w9 ⟨rfl, b9⟩
            have hRR := HKK.out
            rw [Bool.false_and] at hRR
            subst hRR
            go_wp2_with fail
            go_ret
            exact ⟨rfl, bthen HBX.out b9⟩
          · go_wp2_with (first | (rw [← HX.out]) | (rw [← HX1.out]))
            refine (HC.out).mono ?_
            rintro e w9 ⟨rfl, b9⟩
            go_wp2_with fail
            go_roundw
            case measure => simp [intOf]; omega
            case rel => exact ⟨k + 1, by omega, by go_num, Lib.hid (by rw [HKK.out, Bool.true_and]), bthen HBX.out b9⟩
        · have hke : k = l.length := by omega
          have hkz : ¬ (k : Int) < (l.length : Int) := by omega
          subst hke
          have hKK := HK.out
          rw [List.drop_length] at hKK
          simp only [E.mayL] at hKK
          subst hKK
          clear HM HI HL HR HK
          go_wp2_with fail
          go_ret
          exact ⟨rfl, HB.out⟩
set_option maxRecDepth 100000 in
set_option maxHeartbeats 4000000 in
theorem rCheck_any (e : E) (x : Value) (S : Nat → Prop) (w : World) (hx : EAt S w e x) (hsh : e.sn = true) (hd : e.deep ≤ 1000000) : Calls Tryz.prog 41 #[x] w fun r w' => r = .returned (.int .i64 (chkE e)) ∧ Below w.heap.size w w' := by
  obtain ⟨s0, i1, i2, s3, s4, s5, A, n, c, rfl⟩ := hx.agg
  obtain ⟨W1, hW1, q1, z1, r1⟩ := box7 w (.string s0) (.int .i64 i1) (.int .i64 i2) (.string s3) (.string s4) (.string s5) (.slice A n c)
  have hx1 := hx.later r1
  have HM := Lib.hid (rMay_any e _ S W1 hx1 hsh)
  have HD := Lib.hid (fun W (hb : Below W1.heap.size W1 W) => rDeep_any e _ S W (hx1.later hb) hd)
  obtain ⟨a0, a1, a2, a3, a4, a5, a6⟩ := q1.cells
  have HB := Lib.hid r1
  have HW1 := Lib.hid hW1
  have HQ := Lib.hid q1
  unfold chkE
  generalize e.may = m at *
  generalize hdp : e.deep = dp at *
  clear hW1 hx hx1 hsh r1 q1 hdp z1
  cases m
  · simp only [Bool.false_eq_true, if_false]
    go_enter Tryz.func41, Tryz.ntmps41
    go_wp2_with (rw [← HW1.out])
    refine (HM.out).mono ?_
    rintro r w3 ⟨rfl, b3⟩
    go_wp2_with fail
    go_ret
    exact ⟨rfl, bthen HB.out b3⟩
  · simp only [if_true]
    by_cases h4 : 40 < dp
    · rw [if_pos h4]
      have h4z : (40 : Int) < (dp : Int) := by omega
      go_enter Tryz.func41, Tryz.ntmps41
      go_wp2_with (rw [← HW1.out])
      refine (HM.out).mono ?_
      rintro r w3 ⟨rfl, b3⟩
      have HB3 := Lib.hid (bthen HB.out b3)
      have HD3 := Lib.hid (HD.out _ b3)
      obtain ⟨a0, a1, a2, a3, a4, a5, a6⟩ := (HQ.out.later b3).cells
      clear b3
      go_wp2_with fail
      refine (HD3.out).mono ?_
      rintro r w4 ⟨rfl, b4⟩
      go_wp2_with fail
      go_ret
      exact ⟨rfl, bthen HB3.out b4⟩
    · rw [if_neg h4]
      have h4z : ¬ (40 : Int) < (dp : Int) := by omega
      go_enter Tryz.func41, Tryz.ntmps41
      go_wp2_with (rw [← HW1.out])
      refine (HM.out).mono ?_
      rintro r w3 ⟨rfl, b3⟩
      have HB3 := Lib.hid (bthen HB.out b3)
      have HD3 := Lib.hid (HD.out _ b3)
      obtain ⟨a0, a1, a2, a3, a4, a5, a6⟩ := (HQ.out.later b3).cells
      clear b3
      go_wp2_with fail
      refine (HD3.out).mono ?_
      rintro r w4 ⟨rfl, b4⟩
      go_wp2_with fail
      go_ret
      exact ⟨rfl, bthen HB3.out b4⟩
end Go.Proofs.YtcmbdghbicjljaaGreatDoor
