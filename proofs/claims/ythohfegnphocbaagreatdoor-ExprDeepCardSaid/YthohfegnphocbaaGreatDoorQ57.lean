/- Contract of find at a column. Condition: its names are short. -/
import Derived.Test.YthohfegnphocbaaGreatDoorQ56
import Derived.Deep.RegionLaw
namespace Go.Proofs.YthohfegnphocbaaGreatDoor
open Go.RowKit Go.WideMaps Go.Maps
theorem key_len (t n : List UInt8) (ht : t.length ≤ 32) (hn : n.length ≤ 32) : (colKey t n).length ≤ 1000000 := by
  have a1 := kStr_len [] wCol (by decide)
  have a2 := kStr_len (kStr [] wCol) [] (by simp)
  have a3 := kStr_len (kStr (kStr [] wCol) []) t (by omega)
  have a4 := kStr_len (kStr (kStr (kStr [] wCol) []) t) n (by omega)
  have a5 := kNum_len (kStr (kStr (kStr (kStr [] wCol) []) t) n) 0 (by omega) (by omega)
  have a6 := kNum_len (kNum (kStr (kStr (kStr (kStr [] wCol) []) t) n) 0) 0 (by omega) (by omega)
  have a7 := kNum_len (kNum (kNum (kStr (kStr (kStr (kStr [] wCol) []) t) n) 0) 0) 0 (by omega) (by omega)
  unfold colKey
  simp [wCol] at *
  omega
theorem look_of {D : DataW Unit} {l : List UInt8} {c : Int} (h : D.atKey (.string l) (.lit (.int .i64 0)) = .lit (.int .i64 c)) : c = lookD D l := by
  unfold lookD
  rw [h]
set_option maxRecDepth 100000 in
set_option maxHeartbeats 16000000 in
theorem find_col (t n : List UInt8) (ht : t.length ≤ 32) (hn : n.length ≤ 32) (A : Option Addr) (c : Nat) (w : World) (B b mb k : Nat) (st : List E × DataW Unit) (u : Value) (h : FAt w B b mb st u k) (hE : BV.Env w) (hk : k ≤ 1000000) (hs : st.1.length ≤ 1000000) :
    Calls Tryz.prog 43 #[.pointer (some ⟨b, 0, none⟩), .agg #[.string ⟨#[99, 111, 108]⟩, .int .i64 0, .int .i64 0, .string ⟨#[]⟩, .string (str t), .string (str n), .slice A 0 c]] w fun r w' => r = .returned (.tuple #[]) ∧ (∃ u' k', FAt w' B b mb (hit (col t n) st) u' k' ∧ k' ≤ k + 1) ∧ Below B w w' := by
  obtain ⟨W1, hW1, q1, z1, r1⟩ := box7 w (.string ⟨#[99, 111, 108]⟩) (.int .i64 0) (.int .i64 0) (.string ⟨#[]⟩) (.string (str t)) (.string (str n)) (.slice A 0 c)
  have F1 := Lib.hid (h.later r1)
  have HQ1 := Lib.hid q1
  have hbw : b < w.heap.size := h.lt
  have hmw : mb < w.heap.size := h.map.lt
  have hBb := h.bB
  have HK := Lib.hid (key_any t n ht hn A c W1 (hE.below r1 hE.size))
  have HKEY := Lib.hid (key_of (colKey t n) (key_len t n ht hn))
  have HB1 := Lib.hid (r1.mono (show B ≤ w.heap.size by omega))
  obtain ⟨fs, D⟩ := st
  obtain ⟨C0, hC0⟩ : ∃ C0, C0 = lookD D (colKey t n) := ⟨_, rfl⟩
  obtain ⟨D1, hD1⟩ : ∃ D1, D1 = hitD D (colKey t n) := ⟨_, rfl⟩
  obtain ⟨C1, hC1⟩ : ∃ C1, C1 = lookD D1 (colKey t n) := ⟨_, rfl⟩
  have HA0 : Hid (∀ c, D.atKey (.string (colKey t n)) (.lit (.int .i64 0)) = .lit (.int .i64 c) → c = C0) := Lib.hid (fun c hc => by rw [hC0]; exact look_of hc)
  have HA1 : Hid (∀ c, D1.atKey (.string (colKey t n)) (.lit (.int .i64 0)) = .lit (.int .i64 c) → c = C1) := Lib.hid (fun c hc => by rw [hC1]; exact look_of hc)
  have HD1 : Hid (D.put (.string (colKey t n)) (.lit (.int .i64 (wrap64 (C0 + 1)))) = D1) := Lib.hid (by rw [hD1, hC0]; rfl)
  have HH : Hid (hit (col t n) (fs, D) = (if C1 = 1 then fs ++ [col t n] else fs, D1)) := Lib.hid (by rw [hC1, hD1]; rfl)
  have hrc : ∀ A', rowCells (col t n, A', 0) = [.string ⟨#[99, 111, 108]⟩, .int .i64 0, .int .i64 0, .string ⟨#[]⟩, .string (str t), .string (str n), .slice A' 0 0] := fun _ => rfl
  have HRC := Lib.hid hrc
  have hcl : Hid ((col t n).l = []) := Lib.hid rfl
  have HCP := Lib.hid (fun W => copied_one ⟨#[99, 111, 108]⟩ ⟨#[]⟩ (str t) (str n) 0 0 A c W)
  rw [HH.out]
  simp only at hs
  obtain ⟨m, hm⟩ : ∃ m, m = fs.length := ⟨_, rfl⟩
  have hul : ∃ A0 c0, u = .slice A0 m c0 := by have := h.size; rwa [← hm] at this
  obtain ⟨Au, cu, rfl⟩ := hul
  have hm6 : m ≤ 1000000 := by omega
  have HUB : Hid ((Value.slice Au m cu).ownBlock ≠ some w.heap.size) := Lib.hid (fun e => by have := h.own_lt e; omega)
  have HM := Lib.hid hm
  generalize colKey t n = ks at *
  generalize col t n = e at *
  generalize str t = tb at *
  generalize str n = nb at *
  have HW1 := Lib.hid hW1
  obtain ⟨a0, a1, a2, a3, a4, a5, a6⟩ := q1.cells
  clear hW1 hC0 hD1 hC1 hrc q1 r1 hE h ht hn hs hm HH z1
  by_cases hC : C1 = 1
  · subst hC
    rw [if_pos rfl]
    go_enter Tryz.func43, Tryz.ntmps43
    go_wp2_with (rw [← HW1.out])
    refine HK.out.mono ?_
    rintro r w2 ⟨v2, rfl, ho2, b2⟩
    obtain ⟨A2, c2, rfl, hc2, hcm2, hby⟩ := ho2.bytes
    have hconv := conv_at (c := c2) hby
    have F2 := Lib.hid (F1.out.later b2)
    obtain ⟨x0, x1, x2⟩ := F2.out.cells
    have HQ2 := Lib.hid (HQ1.out.later b2)
    have HB2 := Lib.hid (HB1.out.trans (b2.mono (by have := HB1.out.size; omega)))
    clear ho2 hby b2 HK F1 HQ1 HB1
    go_wp2_with (first
      | (at_lookup; refine wpList_lookup_own_int _ rfl _ _ 75 rfl 9 3 .i64 law9 Tryz.underlying75 Tryz.underlying3 (zero3 _) mb k _ rfl F2.out.map _ _ rfl HKEY.out ?_; intro c9 hat hwc; obtain rfl := HA0.out c9 hat)
      | (at_mapUpdate; refine wpList_mapUpdate_own _ rfl _ _ _ 75 rfl 9 3 law9 Tryz.underlying75 _ mb k _ rfl F2.out.map (by unfold maxLen; omega) _ _ _ rfl rfl HKEY.out _ [] (plainElem_int Tryz.underlying3 (wrap64_wf _)) ?_; intro w3 hown3 hgrow3; rw [HD1.out] at hown3; have F3 := Lib.hid (F2.out.counted hown3 hgrow3); obtain ⟨y0, y1, y2⟩ := F3.out.cells; have HQ3 := Lib.hid (HQ2.out.same (hgrow3.block _ HQ2.out.lt (by intro e; injection e with e; omega))); obtain ⟨v0, v1, v2, v3, v4, v5, v6⟩ := HQ3.out.cells; have HB3 := Lib.hid (HB2.out.grown hgrow3 (by have := HB2.out.size; omega) (fun j hj => by injection hj with hj; subst hj; exact F2.out.mB)); clear hown3 hgrow3)
      | (at_lookup; refine wpList_lookup_own_int _ rfl _ _ 75 rfl 9 3 .i64 law9 Tryz.underlying75 Tryz.underlying3 (zero3 _) mb (k + 1) _ rfl F3.out.map _ _ rfl HKEY.out ?_; intro c9 hat hwc; obtain rfl := HA1.out c9 hat))
    have HFd := Lib.hid (F3.out.later (show Below w3.heap.size w3 w3.drew from ⟨rfl, rfl, rfl, Nat.le_refl _, fun _ _ => rfl⟩))
    have HQd := Lib.hid (HQ3.out.later (show Below w3.heap.size w3 w3.drew from ⟨rfl, rfl, rfl, Nat.le_refl _, fun _ _ => rfl⟩))
    have HBd := Lib.hid (HB3.out.trans (show Below B w3 w3.drew from ⟨rfl, rfl, rfl, Nat.le_refl _, fun _ _ => rfl⟩))
    clear y0 y1 y2 v0 v1 v2 v3 v4 v5 v6 hconv x0 x1 x2 a0 a1 a2 a3 a4 a5 a6
    have mA := (Below.refl w3.heap.size w3).alloc (Nat.le_refl _) (.cells #[.string ⟨#[]⟩, .int .i64 0, .int .i64 0, .string ⟨#[]⟩, .string ⟨#[]⟩, .string ⟨#[]⟩, .slice none 0 0] 27)
    have mD : Below (w3.alloc (.cells #[.string ⟨#[]⟩, .int .i64 0, .int .i64 0, .string ⟨#[]⟩, .string ⟨#[]⟩, .string ⟨#[]⟩, .slice none 0 0] 27)).heap.size (w3.alloc (.cells #[.string ⟨#[]⟩, .int .i64 0, .int .i64 0, .string ⟨#[]⟩, .string ⟨#[]⟩, .string ⟨#[]⟩, .slice none 0 0] 27)) (w3.alloc (.cells #[.string ⟨#[]⟩, .int .i64 0, .int .i64 0, .string ⟨#[]⟩, .string ⟨#[]⟩, .string ⟨#[]⟩, .slice none 0 0] 27)).drew := ⟨rfl, rfl, rfl, Nat.le_refl _, fun _ _ => rfl⟩
    have HFb := Lib.hid (F3.out.later mA)
    have HQb := Lib.hid (HQ3.out.later mA)
    have HFa := Lib.hid (HFb.out.later mD)
    have HQa := Lib.hid (HQb.out.later mD)
    have HZa : Hid ((w3.alloc (.cells #[.string ⟨#[]⟩, .int .i64 0, .int .i64 0, .string ⟨#[]⟩, .string ⟨#[]⟩, .string ⟨#[]⟩, .slice none 0 0] 27)).drew.heap[w3.heap.size]? = some (.cells #[.string ⟨#[]⟩, .int .i64 0, .int .i64 0, .string ⟨#[]⟩, .string ⟨#[]⟩, .string ⟨#[]⟩, .slice none 0 0] 27 (0, 0))) := Lib.hid (heap_alloc_new w3 (.cells #[.string ⟨#[]⟩, .int .i64 0, .int .i64 0, .string ⟨#[]⟩, .string ⟨#[]⟩, .string ⟨#[]⟩, .slice none 0 0] 27))
    have HBa := Lib.hid ((HB3.out.trans (mA.mono (by have := HB3.out.size; omega))).trans (mD.mono (by have := HB3.out.size; have := mA.size; omega)))
    obtain ⟨y0, y1, y2⟩ := F3.out.cells
    obtain ⟨v0, v1, v2, v3, v4, v5, v6⟩ := HQ3.out.cells
    obtain ⟨n0, n1, n2⟩ := HFb.out.cells
    obtain ⟨o0, o1, o2, o3, o4, o5, o6⟩ := HQb.out.cells
    clear mD
    have hmz : (m : Int) < (m : Int) + 1 := by omega
    have hmz2 : (m : Int) < ((m + 1 : Nat) : Int) := by omega
    clear mA
    go_region_law (first
      | (refine step_append_runy _ rfl (.tmp 30) (.tmp 34) 25 25 rfl _ _ rfl rfl hrun ?_)
      | (go_simp; go_at_call 94; refine (HCP.out _).mono ?_; rintro r w1 ⟨⟨A', rfl⟩, b1⟩; first
        | (have G1 : FAt w1 B b mb (fs, D1) (.slice Au m cu) (k + 1) := (by with_reducible exact HFd.out.later b1); have mB := (Below.refl w1.heap.size w1).alloc (Nat.le_refl _) (.cells #[.string ⟨#[]⟩, .int .i64 0, .int .i64 0, .string ⟨#[]⟩, .string ⟨#[]⟩, .string ⟨#[]⟩, .slice none 0 0] 27); have G1a := G1.later mB; obtain ⟨q0, q1, q2⟩ := G1.cells; obtain ⟨r0, r1, r2⟩ := G1a.cells; have HQ1 := Lib.hid ((HQd.out.later b1).later mB); have HB1 := Lib.hid ((HBd.out.trans (b1.mono (by have := HBd.out.size; omega))).trans (mB.mono (by have := HBd.out.size; have := b1.size; omega))); obtain ⟨g, cap, w5, hrun, ⟨⟨i0, i1, i2, i3, i4, i5, i6⟩, j0, j1, j2, j3, j4, j5, j6⟩, ⟨⟨k0, k1, k2, k3, k4, k5, k6⟩, l0, l1, l2, l3, l4, l5, l6⟩, ⟨m0, m1, m2, m3⟩, ⟨W9, hW9, F9, B9, R9⟩, ⟨W8, hW8, F8, B8, R8⟩⟩ := G1a.place (heap_alloc_new w1 _) (by rw [← HM.out]; exact hm6) HM.out.symm e A' hcl.out (HRC.out A'); have HW9 := Lib.hid hW9; have HW8 := Lib.hid hW8; have FR9 := Lib.hid R9; have FR8 := Lib.hid R8; clear hW9 hW8 R9 R8 b1 mB G1 G1a)
        | (have G1 : FAt w1 B b mb (fs, D1) (.slice Au m cu) (k + 1) := (by with_reducible exact HFa.out.later b1); obtain ⟨q0, q1, q2⟩ := G1.cells; have HQ1 := Lib.hid (HQa.out.later b1); have HB1 := Lib.hid (HBa.out.trans (b1.mono (by have := HBa.out.size; omega))); obtain ⟨g, cap, w5, hrun, ⟨⟨i0, i1, i2, i3, i4, i5, i6⟩, j0, j1, j2, j3, j4, j5, j6⟩, ⟨⟨k0, k1, k2, k3, k4, k5, k6⟩, l0, l1, l2, l3, l4, l5, l6⟩, ⟨m0, m1, m2, m3⟩, ⟨W9, hW9, F9, B9, R9⟩, ⟨W8, hW8, F8, B8, R8⟩⟩ := G1.place ((b1.block _ (by simp)).trans HZa.out) (by rw [← HM.out]; exact hm6) HM.out.symm e A' hcl.out (HRC.out A'); have HW9 := Lib.hid hW9; have HW8 := Lib.hid hW8; have FR9 := Lib.hid R9; have FR8 := Lib.hid R8; clear hW9 hW8 R9 R8 b1 G1)))
    all_goals
      first
        | (rw [← HW9.out]; have HF := Lib.hid F9.out; have HBf := Lib.hid (HB1.out.trans B9.out); have HQf := Lib.hid (HQ1.out.same (FR9.out _ HQ1.out.lt (by omega) HUB.out)))
        | (rw [← HW8.out]; have HF := Lib.hid F8.out; have HBf := Lib.hid (HB1.out.trans B8.out); have HQf := Lib.hid (HQ1.out.same (FR8.out _ HQ1.out.lt (by omega) HUB.out)))
      obtain ⟨t0, t1, t2, t3, t4, t5, t6⟩ := HQf.out.cells
      clear hrun q0 q1 q2 i0 i1 i2 i3 i4 i5 i6 j0 j1 j2 j3 j4 j5 j6 k0 k1 k2 k3 k4 k5 k6 l0 l1 l2 l3 l4 l5 l6 m0 m1 m2 m3 y0 y1 y2 v0 v1 v2 v3 v4 v5 v6 n0 n1 n2 o0 o1 o2 o3 o4 o5 o6
      go_wp2_with fail
      refine wp_loop_rounds 1 ?_
      rw [rounds_succ]
      go_wp2_with fail
      go_end0
      exact ⟨rfl, ⟨_, _, HF.out, Nat.le_refl _⟩, HBf.out⟩
  · have hCf : (C1 == 1) = false := by simpa using hC
    rw [if_neg hC]
    go_enter Tryz.func43, Tryz.ntmps43
    go_wp2_with (rw [← HW1.out])
    refine HK.out.mono ?_
    rintro r w2 ⟨v2, rfl, ho2, b2⟩
    obtain ⟨A2, c2, rfl, hc2, hcm2, hby⟩ := ho2.bytes
    have hconv := conv_at (c := c2) hby
    have F2 := Lib.hid (F1.out.later b2)
    obtain ⟨x0, x1, x2⟩ := F2.out.cells
    have HQ2 := Lib.hid (HQ1.out.later b2)
    have HB2 := Lib.hid (HB1.out.trans (b2.mono (by have := HB1.out.size; omega)))
    clear ho2 hby b2 HK F1 HQ1 HB1
    go_wp2_with (first
      | (at_lookup; refine wpList_lookup_own_int _ rfl _ _ 75 rfl 9 3 .i64 law9 Tryz.underlying75 Tryz.underlying3 (zero3 _) mb k _ rfl F2.out.map _ _ rfl HKEY.out ?_; intro c9 hat hwc; obtain rfl := HA0.out c9 hat)
      | (at_mapUpdate; refine wpList_mapUpdate_own _ rfl _ _ _ 75 rfl 9 3 law9 Tryz.underlying75 _ mb k _ rfl F2.out.map (by unfold maxLen; omega) _ _ _ rfl rfl HKEY.out _ [] (plainElem_int Tryz.underlying3 (wrap64_wf _)) ?_; intro w3 hown3 hgrow3; rw [HD1.out] at hown3; have F3 := Lib.hid (F2.out.counted hown3 hgrow3); obtain ⟨y0, y1, y2⟩ := F3.out.cells; have HQ3 := Lib.hid (HQ2.out.same (hgrow3.block _ HQ2.out.lt (by intro e; injection e with e; omega))); obtain ⟨v0, v1, v2, v3, v4, v5, v6⟩ := HQ3.out.cells; have HB3 := Lib.hid (HB2.out.grown hgrow3 (by have := HB2.out.size; omega) (fun j hj => by injection hj with hj; subst hj; exact F2.out.mB)); clear hown3 hgrow3)
      | (at_lookup; refine wpList_lookup_own_int _ rfl _ _ 75 rfl 9 3 .i64 law9 Tryz.underlying75 Tryz.underlying3 (zero3 _) mb (k + 1) _ rfl F3.out.map _ _ rfl HKEY.out ?_; intro c9 hat hwc; obtain rfl := HA1.out c9 hat))
    refine wp_loop_rounds 1 ?_
    rw [rounds_succ]
    go_wp2_with fail
    go_end0
    exact ⟨rfl, ⟨_, _, F3.out, Nat.le_refl _⟩, HB3.out⟩
end Go.Proofs.YthohfegnphocbaaGreatDoor
