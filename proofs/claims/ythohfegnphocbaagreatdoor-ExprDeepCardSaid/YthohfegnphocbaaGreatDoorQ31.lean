/- Contract of the writer of expressions: a column, a value. Condition: what is written stays below ten billion bytes, a value's text below a million. -/
import Derived.Test.YthohfegnphocbaaGreatDoorQ29
namespace Go.Proofs.YthohfegnphocbaaGreatDoor
open Go.RowKit
set_option maxRecDepth 100000 in
set_option maxHeartbeats 8000000 in
theorem colW (t n : List UInt8) (B b : Nat) (acc : List UInt8) (x : Value) (w : World) (h : BX.W63 B b acc w) (hB : B ≤ w.heap.size) (hx : EAt (fun k => k < B) w (col t n) x) (hlen : acc.length + (col t n).txt.length ≤ 10000000000) :
    Calls Tryz.prog 77 #[.pointer (some ⟨b, 0, none⟩), x] w fun r w' => r = .returned (.tuple #[]) ∧ BX.W63 B b (acc ++ (col t n).txt) w' ∧ Below B w w' ∧ BX.Keep w w' := by
  obtain ⟨A, c, rfl, hs⟩ := hx
  simp only [col, E.op, E.v, E.tb, E.nm, E.l, eVal, List.length_nil] at *
  obtain ⟨W1, hW1, q1, z1, r1⟩ := box7 w (.string (str wCol)) (.int .i64 v0.k) (.int .i64 v0.i) (.string (str v0.s)) (.string (str t)) (.string (str n)) (.slice A 0 c)
  obtain ⟨a0, a1, a2, a3, a4, a5, a6⟩ := q1.cells
  have htx : (E.mk wCol v0 t n []).txt = if t = [] then n else t ++ 46 :: n := by rfl
  rw [htx] at hlen ⊢
  have hw1 := BX.W63.below h r1
  have HB := Lib.hid r1
  have HW1 := Lib.hid hW1
  have HQ := Lib.hid q1
  have hB1 : B ≤ W1.heap.size := by omega
  have hsn : (str n).size = n.length := str_size n
  have hst : (str t).size = t.length := str_size t
  have hln := str_list n
  have hlt := str_list t
  have hte : ((str t).toList == []) = (t == []) := by rw [Lib.toList_data, str_list]
  have hte2 : ((str t).toList != []) = !(t == []) := by rw [bne, hte]
  by_cases h0 : t = []
  · subst h0
    simp only [if_true] at hlen ⊢
    have hst0 : str ([] : List UInt8) = ⟨#[]⟩ := rfl
    have HC1 := Lib.hid (BX.wString B b acc (str n) W1.drew (BX.W63.drew hw1) (by omega) hB1)
    rw [hln] at HC1
    simp only [hst0] at *
    clear hW1 q1 r1 h hs hw1 hsn hst hln hlt hlen htx hte hte2
    generalize str n = bn at *
    go_enter Tryz.func77, Tryz.ntmps77
    go_wp2_with (rw [← HW1.out])
    go_region_with (go_at_call 76; refine (HC1.out).mono ?_; rintro r w3 ⟨rfl, h3, b3, k3⟩)
    all_goals
      have hb3 : Below B W1 w3 := ((Below.refl B W1).drew).trans b3
      have hk3 : BX.Keep W1 w3 := (keep_below (Below.refl W1.heap.size W1).drew).trans k3
      go_wp2_with fail
      go_end0
      exact ⟨rfl, h3, (HB.out.mono hB).trans hb3, (keep_below HB.out).trans hk3⟩
  · simp only [h0, if_false] at hlen ⊢
    have hf : (t == []) = false := by simpa using h0
    rw [hf] at hte hte2
    simp only [List.length_append, List.length_cons] at hlen
    have HC1 := Lib.hid (BX.wString B b acc (str t) W1.drew (BX.W63.drew hw1) (by omega) hB1)
    rw [hlt] at HC1
    have HN := Lib.hid (fun w h hB => BX.wString B b (acc ++ t ++ [46]) (str n) w h (by simp only [List.length_append, List.length_cons, List.length_nil]; omega) hB)
    have HD := Lib.hid (fun w h hB => BX.wByte B b (acc ++ t) 46 46 w rfl h (by simp only [List.length_append]; omega) hB)
    rw [hln] at HN
    clear hW1 q1 r1 h hs hw1 hsn hst hln hlt hlen htx h0 hf
    generalize str n = bn at *
    generalize str t = bt at *
    go_enter Tryz.func77, Tryz.ntmps77
    go_wp2_with (rw [← HW1.out])
    go_region_with (go_at_call 76; refine (HC1.out).mono ?_; rintro r w3 ⟨rfl, h3, b3, k3⟩)
    all_goals
      have hb3 : Below B W1 w3 := ((Below.refl B W1).drew).trans b3
      have hk3 : BX.Keep W1 w3 := (keep_below (Below.refl W1.heap.size W1).drew).trans k3
      have HB3 := Lib.hid hb3
      have HK3 := Lib.hid hk3
      have hz3 := hb3.size
      have H4 := Lib.hid (HD.out w3 h3 (by omega))
      clear h3 b3 k3 hb3 hk3
      go_wp2_with fail
      refine (H4.out).mono ?_
      rintro r w4 ⟨rfl, h4, b4, k4⟩
      have q4 := (HQ.out.keep HK3.out).keep k4
      obtain ⟨d0, d1, d2, d3, d4, d5, d6⟩ := q4.cells
      have hz4 := b4.size
      have H5 := Lib.hid (HN.out w4.drew (BX.W63.drew h4) (by show _ ≤ w4.heap.size; omega))
      have HB4 := Lib.hid (HB3.out.trans b4)
      have HK4 := Lib.hid (HK3.out.trans k4)
      clear h4 b4 k4 q4
      go_wp2_with fail
      go_region_with (go_at_call 76; refine (H5.out).mono ?_; rintro r w6 ⟨rfl, h6, b6, k6⟩)
      all_goals
        have hb6 : Below B w4 w6 := ((Below.refl B w4).drew).trans b6
        have hk6 : BX.Keep w4 w6 := (keep_below (Below.refl w4.heap.size w4).drew).trans k6
        have h7 : BX.W63 B b (acc ++ (t ++ 46 :: n)) w6 := by
          simpa only [List.append_assoc, List.cons_append, List.nil_append] using h6
        go_wp2_with fail
        go_end0
        exact ⟨rfl, h7, ((HB.out.mono hB).trans HB4.out).trans hb6, ((keep_below HB.out).trans HK4.out).trans hk6⟩
set_option maxRecDepth 100000 in
set_option maxHeartbeats 8000000 in
theorem w_col (t n : List UInt8) : ExprW (col t n) := by
  intro B b acc x w h hB h10 hE hx hlen
  obtain ⟨A, c, rfl, hs⟩ := hx
  obtain ⟨W1, hW1, q1, r1, hw1, hB1, hE1, hl1⟩ := w_open (o := wCol) (v := v0) (t := t) (n := n) (l := []) h hB h10 hE hs
  obtain ⟨a0, a1, a2, a3, a4, a5, a6⟩ := q1.cells
  have HB := Lib.hid r1
  have HW1 := Lib.hid hW1
  have HQ := Lib.hid q1
  have HL1 := Lib.hid hl1
  have HE1 := Lib.hid hE1
  have hso : str wCol = ⟨#[99, 111, 108]⟩ := rfl
  have hat : EAt (fun k => k < B) W1 (col t n) (eVal (col t n).op (col t n).v (col t n).tb (col t n).nm (.slice A (col t n).l.length c)) := ⟨A, c, rfl, hs.keep (fun k hk hlt => ⟨hk, r1.block k hlt⟩) r1.size⟩
  have HC := Lib.hid (colW t n B b acc _ W1 hw1 hB1 hat hlen)
  generalize (col t n).txt = tx at *
  simp only [col, E.op, E.v, E.tb, E.nm, E.l, eVal, hso, List.length_nil] at *
  clear hW1 q1 r1 h hE hs hl1 hE1 hso hlen hw1 hat
  generalize str n = bn at *
  generalize str t = bt at *
  go_enter Tryz.func38, Tryz.ntmps38
  go_wp2_with (rw [← HW1.out])
  refine (HC.out).mono ?_
  rintro r w5 ⟨rfl, h5, b5, k5⟩
  go_wp2_with fail
  go_end0
  exact ⟨rfl, h5, (HB.out.mono hB).trans b5, (keep_below HB.out).trans k5⟩
theorem hexd_digS {n : Nat} (h : n < 16) : BV.hexd n = digS n := by
  have : ∀ n : Fin 16, BV.hexd n.1 = digS n.1 := by decide
  exact this ⟨n, h⟩
theorem hexs_hexS (l : List UInt8) : BV.hexs l = hexS l := by
  induction l with
  | nil => rfl
  | cons a l ih =>
    show BV.hex2 a ++ BV.hexs l = [digS (a.toNat / 16), digS (a.toNat % 16)] ++ hexS l
    rw [ih]
    have ha := a.toNat_lt
    unfold BV.hex2
    rw [hexd_digS (by omega), hexd_digS (by omega)]
theorem vTxt_eq {v : Vl} (h : VOk v) : vTxt v = BV.txt v.k v.i (str v.s) ∧ BV.mayB v.k v.i (str v.s) = true ∧ -9223372036854775808 ≤ v.i ∧ v.i ≤ 9223372036854775807 := by
  rcases h with rfl | rfl | rfl | ⟨h1, h2, h3, h4⟩ | ⟨h1, h2⟩ | ⟨h1, h2⟩
  · exact ⟨rfl, by simp [BV.mayB, BV.emp, str, v0], by decide, by decide⟩
  · exact ⟨rfl, by simp [BV.mayB, BV.emp, str], by decide, by decide⟩
  · exact ⟨rfl, by simp [BV.mayB, BV.emp, str], by decide, by decide⟩
  · obtain ⟨k, i, s⟩ := v
    simp only at h1 h2 h3 h4
    subst h1 h2
    refine ⟨?_, by simp [BV.mayB, BV.emp, str], h3, h4⟩
    unfold vTxt BV.txt
    simp only [show ((2 : Int) = 0) = False by simp, show ((2 : Int) = 1) = False by simp, if_false, if_true]
    unfold Lib.itoa
    split
    · rfl
    · rw [show i.natAbs = i.toNat by omega]
  · obtain ⟨k, i, s⟩ := v
    simp only at h1 h2
    subst h1 h2
    refine ⟨?_, by simp [BV.mayB], by show (-9223372036854775808 : Int) ≤ 0; decide, by show (0 : Int) ≤ 9223372036854775807; decide⟩
    show 39 :: (quo s ++ [39]) = [39] ++ BV.dbl (str s).data.toList ++ [39]
    rw [str_list]; rfl
  · obtain ⟨k, i, s⟩ := v
    simp only at h1 h2
    subst h1 h2
    refine ⟨?_, by simp [BV.mayB], by show (-9223372036854775808 : Int) ≤ 0; decide, by show (0 : Int) ≤ 9223372036854775807; decide⟩
    show 120 :: 39 :: (hexS s ++ [39]) = [120, 39] ++ BV.hexs (str s).data.toList ++ [39]
    rw [str_list, hexs_hexS]; rfl
set_option maxRecDepth 100000 in
set_option maxHeartbeats 8000000 in
theorem w_lit (v : Vl) (hv : VOk v) (hvs : v.s.length ≤ 1000000) : ExprW (lit v) := by
  intro B b acc x w h hB h10 hE hx hlen
  obtain ⟨A, c, rfl, hs⟩ := hx
  obtain ⟨W1, hW1, q1, r1, hw1, hB1, hE1, hl1⟩ := w_open (o := wLit) (v := v) (t := []) (n := []) (l := []) h hB h10 hE hs
  obtain ⟨a0, a1, a2, a3, a4, a5, a6⟩ := q1.cells
  have HB := Lib.hid r1
  have HW1 := Lib.hid hW1
  have HQ := Lib.hid q1
  have HL1 := Lib.hid hl1
  have HE1 := Lib.hid hE1
  have hso : str wLit = ⟨#[108, 105, 116]⟩ := rfl
  have htx : (lit v).txt = vTxt v := by rfl
  rw [htx] at hlen ⊢
  obtain ⟨e1, e2, e3, e4⟩ := vTxt_eq hv
  rw [e1] at hlen ⊢
  have HC := Lib.hid (BV.text_ok v.k v.i (str v.s) W1 e2 (by rw [str_size]; exact hvs) e3 e4 hE1)
  simp only [lit, E.op, E.v, E.tb, E.nm, E.l, eVal, hso, List.length_nil] at *
  generalize BV.txt v.k v.i (str v.s) = tx at *
  have hsz : (⟨tx.toArray⟩ : ByteArray).size = tx.length := by show tx.toArray.size = _; simp
  have hls : (⟨tx.toArray⟩ : ByteArray).data.toList = tx := by simp
  have HN := Lib.hid (fun w h hB => BX.wString B b acc ⟨tx.toArray⟩ w h (by rw [hsz]; omega) hB)
  rw [hls] at HN
  clear hW1 q1 r1 h hE hs hl1 hE1 hso hlen htx e1 e2 e3 e4 hsz hls hv hvs
  generalize str v.s = bs at *
  generalize v.k = vk at *
  generalize v.i = vi at *
  have HW0 := Lib.hid hw1
  clear hw1
  go_enter Tryz.func38, Tryz.ntmps38
  go_wp2_with (rw [← HW1.out])
  refine (HC.out).mono ?_
  rintro r w3 ⟨rfl, b3⟩
  have hz3 := b3.size
  have H4 := Lib.hid (HN.out w3 (BX.W63.below HW0.out b3) (by omega))
  have HB3 := Lib.hid (bthen HB.out b3)
  clear b3
  go_wp2_with fail
  refine (H4.out).mono ?_
  rintro r w5 ⟨rfl, h5, b5, k5⟩
  go_wp2_with fail
  go_end0
  exact ⟨rfl, h5, (HB3.out.mono hB).trans b5, (keep_below HB3.out).trans k5⟩
end Go.Proofs.YthohfegnphocbaaGreatDoor
namespace Go.Proofs.YthohfegnphocbaaGreatDoor
open Go.RowKit
set_option maxRecDepth 100000 in
set_option maxHeartbeats 8000000 in
theorem w_in (y : E) (l : List E) (hne : l ≠ []) (hy : ExprW y) (hl : ∀ j (hj : j < l.length), ExprW l[j]) : ExprW (op1 wIn (y :: l)) := by
  intro B b acc x w h hB h10 hE hx hlen
  obtain ⟨A, c, rfl, hs⟩ := hx
  obtain ⟨W1, hW1, q1, r1, hw1, hB1, hE1, hl1⟩ := w_open (o := wIn) (v := v0) (t := []) (n := []) (l := (y :: l)) h hB h10 hE hs
  obtain ⟨a0, a1, a2, a3, a4, a5, a6⟩ := q1.cells
  have HB := Lib.hid r1
  have HW1 := Lib.hid hW1
  have HQ := Lib.hid q1
  have HL1 := Lib.hid hl1
  have HE1 := Lib.hid hE1
  have hso : str wIn = ⟨#[105, 110]⟩ := rfl
  have htx : (op1 wIn (y :: l)).txt = y.prt ++ (bIn ++ brkB (joinB (txtL l))) := by
    show txtOf wIn v0 [] [] (y :: l) (txtL (y :: l)) = _
    rfl
  rw [htx] at hlen ⊢
  have HP := Lib.hid (partW_any y hy)
  have HLs := Lib.hid (fun acc w A c h hB hE hlw hlen => listW_any l hl B b acc w A c h hB h10 hE hlw hlen)
  have hcap := hl1.1
  have hcm := hl1.2.1
  have hl0 : 1 ≤ l.length := by
    rcases l with _ | ⟨a, l⟩
    · exact absurd rfl hne
    · simp
  clear hne
  obtain ⟨g, off, A', c', rfl, ⟨i0, i1, i2, i3, i4, i5, i6⟩, hat⟩ := hl1.first
  simp only [op1, E.op, E.v, E.tb, E.nm, E.l, eVal, hso, List.length_cons] at *
  simp only [List.length_append] at hlen
  have hbin : bIn.length = 4 := rfl
  have HFin := Lib.hid (fun w' (h7 : BX.W63 B b (acc ++ y.prt ++ bIn ++ brkB (joinB (txtL l))) w') => show BX.W63 B b (acc ++ (y.prt ++ (bIn ++ brkB (joinB (txtL l))))) w' by simpa only [List.append_assoc] using h7)
  have HC1 := Lib.hid (HP.out B b acc _ W1 hw1 hB1 h10 HE1.out hat (by omega))
  have HLen := Lib.hid hlen
  unfold eVal at HC1
  have hcm2 : c ≤ 9223372036854775807 := hcm
  clear hW1 q1 r1 h hE hs hl1 hE1 hy hl hso htx hlen hat hw1 HP hcm
  generalize str y.op = yo at *
  generalize str y.tb = yt at *
  generalize str y.nm = yn at *
  generalize str y.v.s = ys at *
  generalize y.v.k = yk at *
  generalize y.v.i = yi at *
  generalize y.l.length = yl at *
  generalize hLL : l.length = ln at *
  clear hLL
  go_enter Tryz.func38, Tryz.ntmps38
  go_wp2_with (rw [← HW1.out])
  refine (HC1.out).mono ?_
  rintro r w3 ⟨rfl, h3, b3, k3⟩
  have hz3 := b3.size
  have HC2 := Lib.hid (BX.wString B b _ ⟨#[32, 73, 78, 32]⟩ w3 h3 (by have := HLen.out; simp only [List.length_append]; show _ + _ + 4 ≤ _; omega) (by omega))
  have HB3 := Lib.hid b3
  have HK3 := Lib.hid k3
  clear h3 b3 k3 HC1
  go_wp2_with fail
  refine (HC2.out).mono ?_
  rintro r w4 ⟨rfl, h4, b4, k4⟩
  have hb4 := HB3.out.trans b4
  have hk4 := HK3.out.trans k4
  have hz4 := b4.size
  obtain ⟨d0, d1, d2, d3, d4, d5, d6⟩ := (HQ.out.keep hk4).cells
  have hlt := (HL1.out.next hb4 hk4).tail
  have HC3 := Lib.hid (HLs.out _ w4 _ _ h4 (by omega) (HE1.out.below hb4 h10) hlt (by have := HLen.out; simp only [List.length_append]; show _ + _ + 4 + _ ≤ _; omega))
  have HB4 := Lib.hid hb4
  have HK4 := Lib.hid hk4
  have e1 : ln + 1 - 1 = ln := by omega
  have e2 : ((ln : Int) + 1 - 1).toNat = ln := by omega
  have e3 : ((c : Int) - 1).toNat = c - 1 := by omega
  clear h4 b4 k4 hb4 hk4 hlt HC2 HB3 HK3
  go_wp2_with fail
  refine (HC3.out).mono ?_
  rintro r w5 ⟨rfl, h5, b5, k5⟩
  have h6 := HFin.out w5 h5
  go_wp2_with fail
  go_end0
  exact ⟨rfl, h6, ((HB.out.mono hB).trans HB4.out).trans b5, ((keep_below HB.out).trans HK4.out).trans k5⟩
theorem mark2k (w : World) (m m' : ByteArray) : ∃ W : World, W = w.alloc (.cells #[.string m, .string m'] 9) ∧ MAt W w.heap.size [m, m'] ∧ W.heap[w.heap.size]? = some (.cells #[.string m, .string m'] 9 (0, 0)) ∧ W.heap.size = w.heap.size + 1 ∧ Below w.heap.size w W := by
  refine ⟨_, rfl, ⟨by simp, fun j hj => ?_⟩, heap_alloc_new w _, by simp, (Below.refl w.heap.size w).alloc (Nat.le_refl _) _⟩
  have hj2 : j < 2 := hj
  rw [Lib.cell_of_heap (heap_alloc_new w _)]
  have : j = 0 ∨ j = 1 := by omega
  rcases this with rfl | rfl <;> rfl
theorem pre_three (x y z : E) (m m' : ByteArray) : pre [x, y, z] [m, m'] 3 = x.prt ++ (m.data.toList ++ (y.prt ++ (m'.data.toList ++ z.prt))) := by
  simp [pre]
theorem pre_two (x y : E) (m : ByteArray) : pre [x, y] [m] 2 = x.prt ++ (m.data.toList ++ y.prt) := by
  simp [pre]
set_option maxRecDepth 100000 in
set_option maxHeartbeats 8000000 in
theorem w_btw (x y z : E) (hx' : ExprW x) (hy : ExprW y) (hz' : ExprW z) : ExprW (op1 wBetween [x, y, z]) := by
  intro B b acc u w h hB h10 hE hx hlen
  obtain ⟨A, c, rfl, hs⟩ := hx
  obtain ⟨W1, hW1, q1, r1, hw1, hB1, hE1, hl1⟩ := w_open (o := wBetween) (v := v0) (t := []) (n := []) (l := [x, y, z]) h hB h10 hE hs
  obtain ⟨a0, a1, a2, a3, a4, a5, a6⟩ := q1.cells
  have HB := Lib.hid r1
  have HW1 := Lib.hid hW1
  have HQ := Lib.hid q1
  have HL1 := Lib.hid hl1
  have HE1 := Lib.hid hE1
  have hso : str wBetween = ⟨#[98, 101, 116, 119, 101, 101, 110]⟩ := rfl
  have htx : (op1 wBetween [x, y, z]).txt = pre [x, y, z] [⟨#[32, 66, 69, 84, 87, 69, 69, 78, 32]⟩, ⟨#[32, 65, 78, 68, 32]⟩] 3 := by
    rw [pre_three]; rfl
  rw [htx] at hlen ⊢
  obtain ⟨W2, hW2, hM2, hbk, z2, r2⟩ := mark2k W1 ⟨#[32, 66, 69, 84, 87, 69, 69, 78, 32]⟩ ⟨#[32, 65, 78, 68, 32]⟩
  have HC := Lib.hid (partsW_any [x, y, z] (fun j hj => by
    have hj3 : j < 3 := hj
    have : j = 0 ∨ j = 1 ∨ j = 2 := by omega
    rcases this with rfl | rfl | rfl
    · exact partW_any x hx'
    · exact partW_any y hy
    · exact partW_any z hz') [⟨#[32, 66, 69, 84, 87, 69, 69, 78, 32]⟩, ⟨#[32, 65, 78, 68, 32]⟩] (by simp) (by simp) B b acc W2 A c W1.heap.size hM2 (.inr ⟨_, _, _, hbk, by decide, by decide⟩) (BX.W63.below hw1 r2) (by omega) h10 (hE1.below (r2.mono hB1) h10) (hl1.next (r2.mono hB1) (keep_below r2)) hlen)
  simp only [op1, E.op, E.v, E.tb, E.nm, E.l, eVal, hso, List.length_cons, List.length_nil, Nat.zero_add, Nat.reduceAdd] at *
  generalize pre [x, y, z] [⟨#[32, 66, 69, 84, 87, 69, 69, 78, 32]⟩, ⟨#[32, 65, 78, 68, 32]⟩] 3 = tx at *
  have HB2 := Lib.hid r2
  have HW2 := Lib.hid hW2
  have hz1 : W1.heap.size = w.heap.size + 1 := by rw [hW1]; simp
  have HZ1 := Lib.hid hz1
  clear hW1 hW2 q1 r1 r2 h hE hs hl1 hE1 hx' hy hz' hso hlen htx hw1 hM2 hbk z2 hz1
  go_enter Tryz.func38, Tryz.ntmps38
  go_wp2_with (first | (rw [← HW2.out]) | (rw [← HW1.out]))
  refine (HC.out).mono ?_
  rintro r w5 ⟨rfl, h5, b5, k5⟩
  go_wp2_with fail
  go_end0
  exact ⟨rfl, h5, ((HB.out.mono hB).trans (HB2.out.mono hB1)).trans b5, ((keep_below HB.out).trans (keep_below HB2.out)).trans k5⟩
end Go.Proofs.YthohfegnphocbaaGreatDoor
