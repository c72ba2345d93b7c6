/- Contract of lineOf: the line of a word or sign. No condition. -/
import Derived.Test.YthohfegnphocbaaGreatDoorQ15
import Derived.BigRegion
namespace Go.Proofs.YthohfegnphocbaaGreatDoor
open Go.RowKit
set_option maxRecDepth 100000 in
set_option maxHeartbeats 4000000 in
theorem lineOf_head (k : Int) (s : List UInt8) (i : Int) (p : Nat) (w : World) (h : (k, s) ∈ heads) : Calls Tryz.prog 66 #[.agg #[.int .i64 k, .string (str s), .int .i64 i, .int .i64 p]] w fun e w' => e = .returned (.int .i64 (lineC ⟨k, s, i, p⟩)) ∧ Below w.heap.size w w' := by
  have hbx := TBox.made w ⟨k, s, i, p⟩
  obtain ⟨c0, c1, c2, c3⟩ := hbx.cells
  have HB := Lib.hid ((Below.refl w.heap.size w).alloc (Nat.le_refl _) (.cells #[.int .i64 k, .string (str s), .int .i64 i, .int .i64 p] 51))
  clear hbx
  simp only [heads, List.mem_cons, List.not_mem_nil, or_false, Prod.mk.injEq] at h
  rcases h with ⟨rfl, rfl⟩ | ⟨rfl, rfl⟩ | ⟨rfl, rfl⟩ | ⟨rfl, rfl⟩ | ⟨rfl, rfl⟩ | ⟨rfl, rfl⟩ | ⟨rfl, rfl⟩ | ⟨rfl, rfl⟩ | ⟨rfl, rfl⟩ | ⟨rfl, rfl⟩ | ⟨rfl, rfl⟩ | ⟨rfl, rfl⟩ | ⟨rfl, rfl⟩ | ⟨rfl, rfl⟩ | ⟨rfl, rfl⟩ | ⟨rfl, rfl⟩ | ⟨rfl, rfl⟩ | ⟨rfl, rfl⟩ | ⟨rfl, rfl⟩
  all_goals
    simp only [str, wOr, wAnd, wIs, wNot, wLike, wIn, wBetween] at c0 c1 c2 c3 HB ⊢
    go_enter Tryz.func66, Tryz.ntmps66
    go_wp2_with fail
    go_ret
    exact ⟨rfl, HB.out⟩
set_option maxRecDepth 100000 in
set_option maxHeartbeats 4000000 in
theorem lineOf_none (k : Int) (s : List UInt8) (i : Int) (p : Nat) (w : World) (h : (k, s) ∉ heads) (h0 : lineC ⟨k, s, i, p⟩ = 0) : Calls Tryz.prog 66 #[.agg #[.int .i64 k, .string (str s), .int .i64 i, .int .i64 p]] w fun e w' => e = .returned (.int .i64 (lineC ⟨k, s, i, p⟩)) ∧ Below w.heap.size w w' := by
  rw [h0]
  have hbx := TBox.made w ⟨k, s, i, p⟩
  obtain ⟨c0, c1, c2, c3⟩ := hbx.cells
  have HB := Lib.hid ((Below.refl w.heap.size w).alloc (Nat.le_refl _) (.cells #[.int .i64 k, .string (str s), .int .i64 i, .int .i64 p] 51))
  clear hbx h0
  have hm : ∀ q ∈ heads, q.1 = k → ((str s).toList == q.2) = false := fun q hq hqk => by
    rw [Lib.toList_data, str_list, beq_eq_false_iff_ne]
    intro e
    apply h
    have : (k, s) = q := by rw [← hqk, e]
    rw [this]; exact hq
  clear h
  by_cases hk : k = 1
  · subst hk
    have a1 := hm (1, wOr) (by decide) rfl
    have a2 := hm (1, wAnd) (by decide) rfl
    have a3 := hm (1, wIs) (by decide) rfl
    have a4 := hm (1, wNot) (by decide) rfl
    have a5 := hm (1, wLike) (by decide) rfl
    have a6 := hm (1, wIn) (by decide) rfl
    have a7 := hm (1, wBetween) (by decide) rfl
    clear hm
    generalize str s = bs at *
    simp only [wOr, wAnd, wIs, wNot, wLike, wIn, wBetween] at a1 a2 a3 a4 a5 a6 a7
    go_enter Tryz.func66, Tryz.ntmps66
    go_wp2_with fail
    go_ret
    exact ⟨rfl, HB.out⟩
  · have hk1 : (k == 1) = false := by simpa using hk
    by_cases h5 : k = 5
    · subst h5
      have a1 := hm (5, [61]) (by decide) rfl
      have a2 := hm (5, [60, 62]) (by decide) rfl
      have a3 := hm (5, [60, 61]) (by decide) rfl
      have a4 := hm (5, [62, 61]) (by decide) rfl
      have a5 := hm (5, [60]) (by decide) rfl
      have a6 := hm (5, [62]) (by decide) rfl
      have a7 := hm (5, [124, 124]) (by decide) rfl
      have a8 := hm (5, [43]) (by decide) rfl
      have a9 := hm (5, [45]) (by decide) rfl
      have a10 := hm (5, [42]) (by decide) rfl
      have a11 := hm (5, [47]) (by decide) rfl
      have a12 := hm (5, [37]) (by decide) rfl
      clear hm
      generalize str s = bs at *
      go_enter Tryz.func66, Tryz.ntmps66
      go_wp2_with fail
      go_ret
      exact ⟨rfl, HB.out⟩
    · have hk5 : (k == 5) = false := by simpa using h5
      clear hm
      generalize str s = bs at *
      go_enter Tryz.func66, Tryz.ntmps66
      go_wp2_with fail
      go_ret
      exact ⟨rfl, HB.out⟩
theorem lineOf_any (t : T) (ht : Tk1 t) (w : World) : Calls Tryz.prog 66 #[.agg #[.int .i64 t.k, .string (str t.s), .int .i64 t.i, .int .i64 t.p]] w fun e w' => e = .returned (.int .i64 (lineC t)) ∧ Below w.heap.size w w' := by
  by_cases h : (t.k, t.s) ∈ heads
  · exact lineOf_head t.k t.s t.i t.p w h
  · rcases head_cases ht with h1 | ⟨h1, -⟩
    · exact absurd h1 h
    · exact lineOf_none t.k t.s t.i t.p w h h1
end Go.Proofs.YthohfegnphocbaaGreatDoor
namespace Go.Proofs.YthohfegnphocbaaGreatDoor
open Go.RowKit
noncomputable def argX (n : List UInt8) (l : List T) : X (List E) :=
  if isS [41] l then okX [] 1
  else if n == wCount && isS [42] l then seqX (okX () 1) fun _ _ => seqX (needX [41] (l.drop 1)) fun _ _ => okX [star] 0
  else cls resB l
theorem nmX_eq (l : List T) : nmX resB l = seqX (nameX resB l) fun n _ =>
    if isS [46] (l.drop 1) then seqX (okX () 1) fun _ _ => seqX (nameX resB (l.drop 2)) fun c _ => okX (col n c) 0
    else if isS [40] (l.drop 1) then seqX (okX () 1) fun _ _ => seqX (argX n (l.drop 2)) fun xs _ => okX (call1 n xs) 0
    else okX (col [] n) 0 := by
  unfold nmX
  refine seqX_congr fun n m _ => ?_
  by_cases h1 : isS [46] (l.drop 1) = true
  · rw [if_pos h1, if_pos h1]
  rw [if_neg h1, if_neg h1]
  by_cases h2 : isS [40] (l.drop 1) = true
  · rw [if_pos h2, if_pos h2]
    refine seqX_congr fun _ _ _ => ?_
    unfold argX
    by_cases h3 : isS [41] (l.drop 2) = true
    · rw [if_pos h3, if_pos h3]; rfl
    rw [if_neg h3, if_neg h3]
    by_cases h4 : (n == wCount && isS [42] (l.drop 2)) = true
    · rw [if_pos h4, if_pos h4, seqX_assoc]
      refine seqX_congr fun _ _ _ => ?_
      rw [seqX_assoc, List.drop_drop]
      refine seqX_congr fun _ _ _ => ?_
      rw [okX_seq]
    · rw [if_neg h4, if_neg h4]
      unfold cls
      rw [seqX_assoc]
      refine seqX_congr fun xs q _ => ?_
      rw [seqX_assoc, List.drop_drop]
      refine seqX_congr fun _ _ _ => ?_
      rw [okX_seq]
  · rw [if_neg h2, if_neg h2]
def Ap (ts : List T) (b : Nat) (A : Option Addr) (c p : Nat) (d : Bool) (w : World) (x : X (List E)) (e : Ending) (w' : World) : Prop := (match x with
  | .error q => e = gone (p + q)
  | .ok (l, m) => ∃ v, e = .returned v ∧ LGot w' (fun k => w.heap.size ≤ k) l (tooDpL d l) v ∧ RS w' b ts A c (p + m) (tooDpL d l)) ∧ But b w w'
theorem star_one (d : Bool) : tooDpL d [star] = d := by cases d <;> rfl
set_option maxRecDepth 100000 in
set_option maxHeartbeats 4000000 in
theorem arguments_any {ts : List T} (hT : Toks ts) (v : Nat) (hL : LineOk ts v) (w : World) (b : Nat) (A : Option Addr) (c p : Nat) (d : Bool) (h : RS w b ts A c p d) (hv : ts.length - p < v) (n : List UInt8) :
    Calls Tryz.prog 189 #[.pointer (some ⟨b, 0, none⟩), .string (str n)] w (Ap ts b A c p d w (argX n (ts.drop p))) := by
  have hbw := h.lt
  have H41 := Lib.hid (fun w p d (h : RS w b ts A c p d) => take1 hT 5 ⟨#[41]⟩ [41] rfl (.inr ⟨rfl, rfl⟩) w b A c p d h)
  have H42 := Lib.hid (fun w p d (h : RS w b ts A c p d) => take1 hT 5 ⟨#[42]⟩ [42] rfl (.inr ⟨rfl, rfl⟩) w b A c p d h)
  have HLs := Lib.hid (fun w p d (h : RS w b ts A c p d) (hv : ts.length - p < v) => list_any hT v hL w b A c p d h hv)
  have HWn := Lib.hid (fun w p d (h : RS w b ts A c p d) g hM hg => want1 hT 5 ⟨#[41]⟩ [41] rfl (.inr ⟨rfl, rfl⟩) w b A c p d h g hM hg)
  have H1 := Lib.hid (H41.out w p d h)
  have HLp := Lib.hid (fun w1 (R1 : RS w1 b ts A c p d) => HLs.out w1 p d R1 hv)
  unfold argX
  have hcnt : ((str n).toList == [99, 111, 117, 110, 116]) = (n == wCount) := by rw [Lib.toList_data, str_list]; rfl
  generalize str n = bn at *
  clear hT hL h
  cases hc1 : isS [41] (ts.drop p)
  · simp only [Bool.false_eq_true, if_false]
    rw [hc1] at H1
    simp only [Bool.false_eq_true, if_false] at H1
    cases hcn : (n == wCount)
    · -- no star can stand here
      rw [hcn] at hcnt
      simp only [Bool.false_and, Bool.false_eq_true, if_false]
      generalize cls resB (ts.drop p) = xc at *
      clear hcn hc1
      go_enter Tryz.func189, Tryz.ntmps189
      go_wp2_with fail
      refine (H1.out).mono ?_
      rintro e w1 ⟨rfl, R1, b1⟩
      have HL1 := Lib.hid (HLp.out w1 R1)
      have HB1 := Lib.hid b1
      clear R1 b1 H1
      go_wp2_with fail
      refine (HL1.out).mono ?_
      rcases xc with q | ⟨l, m⟩
      · rintro e w2 ⟨rfl, b2⟩
        have HB2 := Lib.hid (HB1.out.trans b2)
        unfold gone
        clear b2
        go_wp2_with fail
        exact ⟨rfl, rfl, HB2.out⟩
      · rintro e w2 ⟨⟨y, rfl, o2, R2, -, -⟩, b2⟩
        have HB2 := Lib.hid (HB1.out.trans b2)
        have hz := HB1.out.size
        have HG := Lib.hid ((o2.got (fun k hk => hk)).keep (S' := fun k => w.heap.size ≤ k) (fun k hk _ => ⟨by omega, rfl⟩) (Nat.le_refl _))
        have HR2 := Lib.hid R2
        clear b2 o2 R2
        go_wp2_with fail
        go_ret
        exact ⟨⟨_, rfl, HG.out, HR2.out⟩, HB2.out⟩
    · rw [hcn] at hcnt
      simp only [Bool.true_and]
      have H2 := Lib.hid (fun w1 (R1 : RS w1 b ts A c p d) => H42.out w1 p d R1)
      cases hc2 : isS [42] (ts.drop p)
      · simp only [Bool.false_eq_true, if_false]
        rw [hc2] at H2
        simp only [Bool.false_eq_true, if_false] at H2
        generalize cls resB (ts.drop p) = xc at *
        clear hcn hc1 hc2
        go_enter Tryz.func189, Tryz.ntmps189
        go_wp2_with fail
        refine (H1.out).mono ?_
        rintro e w1 ⟨rfl, R1, b1⟩
        have HB1 := Lib.hid b1
        have H2' := Lib.hid (H2.out w1 R1)
        clear R1 b1 H1 H2
        go_wp2_with fail
        refine (H2'.out).mono ?_
        rintro e w1' ⟨rfl, R1, b1⟩
        have HL1 := Lib.hid (HLp.out w1' R1)
        have HB1' := Lib.hid (HB1.out.trans b1)
        clear R1 b1 H2' HB1
        go_wp2_with fail
        refine (HL1.out).mono ?_
        rcases xc with q | ⟨l, m⟩
        · rintro e w2 ⟨rfl, b2⟩
          have HB2 := Lib.hid (HB1'.out.trans b2)
          unfold gone
          clear b2
          go_wp2_with fail
          exact ⟨rfl, rfl, HB2.out⟩
        · rintro e w2 ⟨⟨y, rfl, o2, R2, -, -⟩, b2⟩
          have HB2 := Lib.hid (HB1'.out.trans b2)
          have hz := HB1'.out.size
          have HG := Lib.hid ((o2.got (fun k hk => hk)).keep (S' := fun k => w.heap.size ≤ k) (fun k hk _ => ⟨by omega, rfl⟩) (Nat.le_refl _))
          have HR2 := Lib.hid R2
          clear b2 o2 R2
          go_wp2_with fail
          go_ret
          exact ⟨⟨_, rfl, HG.out, HR2.out⟩, HB2.out⟩
      · simp only [if_true]
        rw [hc2] at H2
        simp only [if_true] at H2
        have hdd : List.drop 1 (ts.drop p) = ts.drop (p + 1) := by rw [List.drop_drop]
        rw [hdd]
        have hX : (seqX (okX () 1) fun _ _ => seqX (needX [41] (ts.drop (p + 1))) fun _ _ => okX [star] 0) = if isS [41] (ts.drop (p + 1)) then okX [star] 2 else badX 1 := by
          unfold needX
          split <;> rfl
        rw [hX]
        clear hcn hc1 hc2 hX hdd HLs HLp
        cases hc3 : isS [41] (ts.drop (p + 1))
        · have HWf : Hid (∀ (w : World) (p' : Nat) (d : Bool), p' = p + 1 → RS w b ts A c p' d → ∀ g, MAt w g [⟨#[41]⟩] → g ≠ b → Calls Tryz.prog 108 #[.pointer (some ⟨b, 0, none⟩), .int .i64 5, .slice (some ⟨g, 0, none⟩) 1 1] w fun e w' => (e = gone p' ∧ RS w' b ts A c p' d) ∧ But b w w') := fun w p' d hp' h g hM hg => by
            subst hp'
            refine (HWn.out w (p + 1) d h g hM hg).mono fun e w' hh => ?_
            rw [hc3] at hh
            exact ⟨hh.1, hh.2⟩
          simp only [Bool.false_eq_true, if_false, badX]
          clear hc3 HWn
          go_enter Tryz.func189, Tryz.ntmps189
          go_wp2_with fail
          refine (H1.out).mono ?_
          rintro e w1 ⟨rfl, R1, b1⟩
          have HB1 := Lib.hid b1
          have H2' := Lib.hid (H2.out w1 R1)
          clear R1 b1 H1 H2
          go_wp2_with fail
          refine (H2'.out).mono ?_
          rintro e w2 ⟨rfl, R2, b2⟩
          obtain ⟨W3, hW3, hM3, hz3, r3⟩ := mark1 w2 ⟨#[41]⟩
          have R3 := R2.later r3
          have hb2 := R2.lt
          have H3 := Lib.hid (HWf.out W3 (p + 1) d rfl R3 w2.heap.size hM3 (by omega))
          have HB3 := Lib.hid ((HB1.out.trans b2).then r3)
          have HW3 := Lib.hid hW3
          clear R2 b2 R3 r3 hW3 hM3 H2' HWf
          go_wp2_with (rw [← HW3.out])
          refine (H3.out).mono ?_
          rintro e w4 ⟨⟨rfl, R4⟩, b4⟩
          have HB4 := Lib.hid (HB3.out.trans b4)
          unfold gone
          clear b4 R4
          go_wp2_with fail
          exact ⟨rfl, rfl, HB4.out⟩
        · have HWf : Hid (∀ (w : World) (p' : Nat) (d : Bool), p' = p + 1 → RS w b ts A c p' d → ∀ g, MAt w g [⟨#[41]⟩] → g ≠ b → Calls Tryz.prog 108 #[.pointer (some ⟨b, 0, none⟩), .int .i64 5, .slice (some ⟨g, 0, none⟩) 1 1] w fun e w' => (e = .returned (.string ⟨#[41]⟩) ∧ RS w' b ts A c (p' + 1) d) ∧ But b w w') := fun w p' d hp' h g hM hg => by
            subst hp'
            refine (HWn.out w (p + 1) d h g hM hg).mono fun e w' hh => ?_
            rw [hc3] at hh
            exact ⟨hh.1, hh.2⟩
          simp only [if_true, okX]
          clear hc3 HWn
          go_enter Tryz.func189, Tryz.ntmps189
          go_wp2_with fail
          refine (H1.out).mono ?_
          rintro e w1 ⟨rfl, R1, b1⟩
          have HB1 := Lib.hid b1
          have H2' := Lib.hid (H2.out w1 R1)
          clear R1 b1 H1 H2
          go_wp2_with fail
          refine (H2'.out).mono ?_
          rintro e w2 ⟨rfl, R2, b2⟩
          obtain ⟨W3, hW3, hM3, hz3, r3⟩ := mark1 w2 ⟨#[41]⟩
          have R3 := R2.later r3
          have hb2 := R2.lt
          have H3 := Lib.hid (HWf.out W3 (p + 1) d rfl R3 w2.heap.size hM3 (by omega))
          have HB3 := Lib.hid ((HB1.out.trans b2).then r3)
          have HW3 := Lib.hid hW3
          clear R2 b2 R3 r3 hW3 hM3 H2' HWf
          go_wp2_with (rw [← HW3.out])
          refine (H3.out).mono ?_
          rintro e w4 ⟨⟨rfl, R4⟩, b4⟩
          have HB4 := Lib.hid (HB3.out.trans b4)
          have hz4 := b4.size
          have hzw := HB1.out.size
          have hs : Sub (fun k => w.heap.size ≤ k) w4 star none 0 := by simp [Sub, star, op1]
          have ho := ownL_one (w := w4) (B := w.heap.size) (S := fun k => w.heap.size ≤ k) (e := star) (d := tooDpL d [star]) (star, none, 0) hs (fun _ => rfl) HB4.out.size
          have hG := ho.got (fun k hk => hk)
          have r5 := (Below.refl w4.heap.size w4).alloc (Nat.le_refl _) (.cells (rowCells (star, none, 0)).toArray 27)
          have R5 := R4.later r5
          have HB5 := Lib.hid (HB4.out.then r5)
          rw [← star_one d] at R5
          have HG := Lib.hid hG
          have HR5 := Lib.hid R5
          clear b4 R4 hs ho hG R5 r5
          go_wp2_with fail
          go_ret
          exact ⟨⟨_, rfl, HG.out, HR5.out⟩, HB5.out⟩
  · simp only [if_true]
    rw [hc1] at H1
    simp only [if_true] at H1
    clear hc1
    go_enter Tryz.func189, Tryz.ntmps189
    go_wp2_with fail
    refine (H1.out).mono ?_
    rintro e w1 ⟨rfl, R1, b1⟩
    have hd : tooDpL d [] = d := by unfold tooDpL; simp [E.deepL]
    have hR : RS w1 b ts A c (p + 1) (tooDpL d []) := by rw [hd]; exact R1
    have HR1 := Lib.hid hR
    have HB1 := Lib.hid b1
    clear R1 b1 hd hR
    go_wp2_with fail
    go_ret
    exact ⟨⟨_, rfl, ⟨[], none, 0, rfl, by simp [Sub, op1], fun _ => rfl⟩, HR1.out⟩, HB1.out⟩
end Go.Proofs.YthohfegnphocbaaGreatDoor
namespace Go.Proofs.YthohfegnphocbaaGreatDoor
open Go.RowKit
def vVal (v : Vl) : Value := .agg #[.int .i64 v.k, .int .i64 v.i, .string (str v.s)]
def conX (t : T) : Option Vl :=
  if t.k = 2 then (if 0 ≤ t.i then some ⟨2, t.i, []⟩ else none)
  else if t.k = 3 then some ⟨3, 0, t.s⟩
  else if t.k = 4 then some ⟨4, 0, t.s⟩
  else if t.k = 1 then (if t.s = wNull then some v0 else if t.s = wFalse then some ⟨1, 0, []⟩ else if t.s = wTrue then some ⟨1, 1, []⟩ else none)
  else none
def B3 (w : World) (b : Nat) (c0 c1 c2 : Value) : Prop := w.heap[b]? = some (.cells #[c0, c1, c2] 24 (0, 0))
theorem B3.cells {w : World} {b : Nat} {c0 c1 c2 : Value} (h : B3 w b c0 c1 c2) : w.cell? ⟨b, 0, none⟩ = some c0 ∧ w.cell? ⟨b, 1, none⟩ = some c1 ∧ w.cell? ⟨b, 2, none⟩ = some c2 :=
  ⟨by rw [Lib.cell_of_heap h]; rfl, by rw [Lib.cell_of_heap h]; rfl, by rw [Lib.cell_of_heap h]; rfl⟩
theorem B3.free {w : World} {b : Nat} {c0 c1 c2 : Value} (h : B3 w b c0 c1 c2) : w.frozen? ⟨b, 0, none⟩ = false ∧ w.frozen? ⟨b, 1, none⟩ = false ∧ w.frozen? ⟨b, 2, none⟩ = false :=
  ⟨Lib.frozen_of_heap h 0, Lib.frozen_of_heap h 1, Lib.frozen_of_heap h 2⟩
theorem B3.lt {w : World} {b : Nat} {c0 c1 c2 : Value} (h : B3 w b c0 c1 c2) : b < w.heap.size := (Array.getElem?_eq_some_iff.1 h).1
theorem B3.later {w w' : World} {b : Nat} {c0 c1 c2 : Value} (h : B3 w b c0 c1 c2) (hb : Below w.heap.size w w') : B3 w' b c0 c1 c2 := (hb.block b h.lt).trans h
theorem box3 (w : World) (c0 c1 c2 : Value) : ∃ W : World, W = w.alloc (.cells #[c0, c1, c2] 24) ∧ B3 W w.heap.size c0 c1 c2 ∧ W.heap.size = w.heap.size + 1 ∧ Below w.heap.size w W :=
  ⟨_, rfl, heap_alloc_new w _, by simp, (Below.refl w.heap.size w).alloc (Nat.le_refl _) _⟩
theorem stored3 {w : World} {b : Nat} {x0 x1 x2 : Value} (h : B3 w b x0 x1 x2) (c0 c1 c2 : Value) :
    ∃ W : World, W = (((w.setCell ⟨b, 0, none⟩ c0).setCell ⟨b, 1, none⟩ c1).setCell ⟨b, 2, none⟩ c2) ∧ B3 W b c0 c1 c2 ∧ W.heap.size = w.heap.size ∧ (∀ k, k ≠ b → W.heap[k]? = w.heap[k]?) ∧ ∀ B, B ≤ b → Below B w W := by
  refine ⟨_, rfl, ?_, ?_, fun k hk => ?_, fun B hB => ?_⟩
  · unfold B3
    have h0 := heap_set_same c0 (o := 0) h
    have h1 := heap_set_same c1 (o := 1) h0
    have h2 := heap_set_same c2 (o := 2) h1
    simpa only [List.setIfInBounds_toArray, List.set_cons_zero, List.set_cons_succ] using h2
  · simp only [size_setCell]
  · rw [Below.heap_setCell _ _ _ _ hk, Below.heap_setCell _ _ _ _ hk, Below.heap_setCell _ _ _ _ hk]
  · exact (((Below.refl B w).setCell (p := ⟨b, 0, none⟩) hB _).setCell (p := ⟨b, 1, none⟩) hB _).setCell (p := ⟨b, 2, none⟩) hB _
set_option maxRecDepth 100000 in
set_option maxHeartbeats 2000000 in
theorem lit_any (v : Vl) (w : World) : Calls Tryz.prog 141 #[vVal v] w fun e w' => ∃ y, e = .returned y ∧ EAt (fun _ => False) w' (lit v) y ∧ Below w.heap.size w w' := by
  unfold vVal
  have HE : Hid (∀ w', EAt (fun _ => False) w' (lit v) (.agg #[.string ⟨#[108, 105, 116]⟩, .int .i64 v.k, .int .i64 v.i, .string (str v.s), .string ⟨#[]⟩, .string ⟨#[]⟩, .slice none 0 0])) := fun w' => ⟨none, 0, rfl, by simp [Sub, lit]⟩
  generalize str v.s = bs at *
  generalize v.k = vk at *
  generalize v.i = vi at *
  obtain ⟨W1, hW1, q1, z1, r1⟩ := box3 w (.int .i64 vk) (.int .i64 vi) (.string bs)
  obtain ⟨W2, hW2, q2, z2, r2⟩ := zero7 W1
  rw [z1] at q2
  obtain ⟨a0, a1, a2⟩ := (q1.later r2).cells
  obtain ⟨W3, hW3, q3, z3, o3, b3⟩ := stored7 q2 (.string ⟨#[108, 105, 116]⟩) (.int .i64 vk) (.int .i64 vi) (.string bs) (.string ⟨#[]⟩) (.string ⟨#[]⟩) (.slice none 0 0)
  obtain ⟨k0, k1, k2, k3, k4, k5, k6⟩ := q2.cells
  obtain ⟨f0, f1, f2, f3, f4, f5, f6⟩ := q2.free
  obtain ⟨l0, l1, l2, l3, l4, l5, l6⟩ := q3.cells
  have HB := Lib.hid ((bthen r1 r2).trans (b3 _ (Nat.le_succ _)))
  have HW1 := Lib.hid hW1
  have HW2 := Lib.hid hW2
  have HW3 := Lib.hid hW3
  clear hW1 hW2 hW3 q1 q2 q3 r1 r2 b3 o3
  go_enter Tryz.func141, Tryz.ntmps141
  go_wp2_with (first | (rw [← HW3.out]) | (rw [← HW2.out]) | (rw [← HW1.out]))
  exact bodyPost_ret (v := .agg #[.string ⟨#[108, 105, 116]⟩, .int .i64 vk, .int .i64 vi, .string bs, .string ⟨#[]⟩, .string ⟨#[]⟩, .slice none 0 0]) (by simp [results, Tryz.results141, go_sem, l0, l1, l2, l3, l4, l5, l6]) rfl ⟨_, rfl, HE.out _, HB.out⟩
theorem str_nil : str [] = ⟨#[]⟩ := rfl
set_option maxRecDepth 100000 in
set_option maxHeartbeats 2000000 in
theorem constantWord_any (s : List UInt8) (w : World) : Calls Tryz.prog 187 #[.string (str s)] w fun e w' => (match conX ⟨1, s, 0, 0⟩ with
    | some v => e = .returned (.tuple #[vVal v, .bool true])
    | none => e = .returned (.tuple #[vVal v0, .bool false])) ∧ Below w.heap.size w w' := by
  obtain ⟨W1, hW1, q1, z1, r1⟩ := box3 w (.int .i64 0) (.int .i64 0) (.string ⟨#[]⟩)
  obtain ⟨k0, k1, k2⟩ := q1.cells
  obtain ⟨f0, f1, f2⟩ := q1.free
  have HW1 := Lib.hid hW1
  have fin : ∀ k i : Int, ∃ W : World, W = (((W1.setCell ⟨w.heap.size, 0, none⟩ (.int .i64 k)).setCell ⟨w.heap.size, 1, none⟩ (.int .i64 i)).setCell ⟨w.heap.size, 2, none⟩ (.string ⟨#[]⟩)) ∧ (W.cell? ⟨w.heap.size, 0, none⟩ = some (.int .i64 k) ∧ W.cell? ⟨w.heap.size, 1, none⟩ = some (.int .i64 i) ∧ W.cell? ⟨w.heap.size, 2, none⟩ = some (.string ⟨#[]⟩)) ∧ Below w.heap.size w W := fun k i => by
    obtain ⟨W, h1, h2, h3, h4, h5⟩ := stored3 q1 (.int .i64 k) (.int .i64 i) (.string ⟨#[]⟩)
    exact ⟨W, h1, h2.cells, r1.trans (h5 _ (Nat.le_refl _))⟩
  have e1 : ∀ q : List UInt8, ((str s).toList == q) = decide (s = q) := fun q => by rw [Lib.toList_data, str_list]; by_cases h : s = q <;> simp [h]
  have a1 := e1 wNull
  have a2 := e1 wFalse
  have a3 := e1 wTrue
  clear e1 hW1 q1
  by_cases h1 : s = wNull
  · have hX : conX ⟨1, s, 0, 0⟩ = some v0 := by rw [h1]; rfl
    rw [hX]
    rw [decide_eq_true h1] at a1
    obtain ⟨W, hW, ⟨l0, l1, l2⟩, hB⟩ := fin 0 0
    have HW := Lib.hid hW
    clear fin a2 a3 h1 hX hW
    generalize str s = bs at *
    simp only [wNull] at a1
    go_enter Tryz.func187, Tryz.ntmps187
    go_wp2_with (first | (rw [← HW.out]) | (rw [← HW1.out]))
    exact bodyPost_ret (v := .tuple #[.agg #[.int .i64 0, .int .i64 0, .string ⟨#[]⟩], .bool true]) (by simp [results, Tryz.results187, go_sem, l0, l1, l2]) rfl ⟨rfl, hB⟩
  · rw [decide_eq_false h1] at a1
    by_cases h2 : s = wFalse
    · have hX : conX ⟨1, s, 0, 0⟩ = some ⟨1, 0, []⟩ := by rw [h2]; rfl
      rw [hX]
      rw [decide_eq_true h2] at a2
      obtain ⟨W, hW, ⟨l0, l1, l2⟩, hB⟩ := fin 1 0
      have HW := Lib.hid hW
      clear fin a3 h1 h2 hX hW
      generalize str s = bs at *
      simp only [wNull, wFalse] at a1 a2
      go_enter Tryz.func187, Tryz.ntmps187
      go_wp2_with (first | (rw [← HW.out]) | (rw [← HW1.out]))
      exact bodyPost_ret (v := .tuple #[.agg #[.int .i64 1, .int .i64 0, .string ⟨#[]⟩], .bool true]) (by simp [results, Tryz.results187, go_sem, l0, l1, l2]) rfl ⟨rfl, hB⟩
    · rw [decide_eq_false h2] at a2
      by_cases h3 : s = wTrue
      · have hX : conX ⟨1, s, 0, 0⟩ = some ⟨1, 1, []⟩ := by rw [h3]; rfl
        rw [hX]
        rw [decide_eq_true h3] at a3
        obtain ⟨W, hW, ⟨l0, l1, l2⟩, hB⟩ := fin 1 1
        have HW := Lib.hid hW
        clear fin h1 h2 h3 hX hW
        generalize str s = bs at *
        simp only [wNull, wFalse, wTrue] at a1 a2 a3
        go_enter Tryz.func187, Tryz.ntmps187
        go_wp2_with (first | (rw [← HW.out]) | (rw [← HW1.out]))
        exact bodyPost_ret (v := .tuple #[.agg #[.int .i64 1, .int .i64 1, .string ⟨#[]⟩], .bool true]) (by simp [results, Tryz.results187, go_sem, l0, l1, l2]) rfl ⟨rfl, hB⟩
      · have hX : conX ⟨1, s, 0, 0⟩ = none := by
          simp [conX, h1, h2, h3]
        rw [hX]
        rw [decide_eq_false h3] at a3
        obtain ⟨W, hW, ⟨l0, l1, l2⟩, hB⟩ := fin 0 0
        have HW := Lib.hid hW
        clear fin h1 h2 h3 hX hW
        generalize str s = bs at *
        simp only [wNull, wFalse, wTrue] at a1 a2 a3
        go_enter Tryz.func187, Tryz.ntmps187
        go_wp2_with (first | (rw [← HW.out]) | (rw [← HW1.out]))
        exact bodyPost_ret (v := .tuple #[.agg #[.int .i64 0, .int .i64 0, .string ⟨#[]⟩], .bool false]) (by simp [results, Tryz.results187, go_sem, l0, l1, l2]) rfl ⟨rfl, hB⟩
end Go.Proofs.YthohfegnphocbaaGreatDoor
namespace Go.Proofs.YthohfegnphocbaaGreatDoor
open Go.RowKit
set_option maxRecDepth 100000 in
set_option maxHeartbeats 4000000 in
theorem constant_any (t : T) (w : World) : Calls Tryz.prog 170 #[.agg #[.int .i64 t.k, .string (str t.s), .int .i64 t.i, .int .i64 t.p]] w fun e w' => (match conX t with
    | some v => e = .returned (.tuple #[vVal v, .bool true])
    | none => ∃ (y0 y1 : Int) (y2 : ByteArray), e = .returned (.tuple #[.agg #[.int .i64 y0, .int .i64 y1, .string y2], .bool false])) ∧ Below w.heap.size w w' := by
  obtain ⟨tk, ts, ti, tp⟩ := t
  simp only
  obtain ⟨W1, hW1⟩ : ∃ W1, W1 = w.alloc (.cells #[.int .i64 tk, .string (str ts), .int .i64 ti, .int .i64 tp] 51) := ⟨_, rfl⟩
  have p1 : TBox W1 w.heap.size ⟨tk, ts, ti, tp⟩ := by rw [hW1]; exact TBox.made w ⟨tk, ts, ti, tp⟩
  have r1 : Below w.heap.size w W1 := by rw [hW1]; exact (Below.refl w.heap.size w).alloc (Nat.le_refl _) _
  have z1 : W1.heap.size = w.heap.size + 1 := by rw [hW1]; simp
  obtain ⟨W2, hW2, q1, z2, r2⟩ := box3 W1 (.int .i64 0) (.int .i64 0) (.string ⟨#[]⟩)
  rw [z1] at q1
  obtain ⟨g0, g1, g2, g3⟩ := (p1.later r2).cells
  obtain ⟨k0, k1, k2⟩ := q1.cells
  obtain ⟨f0, f1, f2⟩ := q1.free
  have HW1 := Lib.hid hW1
  have HW2 := Lib.hid hW2
  have fin : ∀ (k i : Int) (s : ByteArray), ∃ W : World, W = (((W2.setCell ⟨w.heap.size + 1, 0, none⟩ (.int .i64 k)).setCell ⟨w.heap.size + 1, 1, none⟩ (.int .i64 i)).setCell ⟨w.heap.size + 1, 2, none⟩ (.string s)) ∧ (W.cell? ⟨w.heap.size + 1, 0, none⟩ = some (.int .i64 k) ∧ W.cell? ⟨w.heap.size + 1, 1, none⟩ = some (.int .i64 i) ∧ W.cell? ⟨w.heap.size + 1, 2, none⟩ = some (.string s)) ∧ Below w.heap.size w W := fun k i s => by
    obtain ⟨W, h1, h2, h3, h4, h5⟩ := stored3 q1 (.int .i64 k) (.int .i64 i) (.string s)
    exact ⟨W, h1, h2.cells, (bthen r1 r2).trans (h5 _ (Nat.le_succ _))⟩
  have HC := Lib.hid (fun w => constantWord_any ts w)
  have hcon := fun (h : ¬ tk = 2) (h' : ¬ tk = 3) (h2 : ¬ tk = 4) (h3 : ¬ tk = 1) => show conX ⟨tk, ts, ti, tp⟩ = none by simp [conX, h, h', h2, h3]
  simp only at g0 g1 g2 g3
  have R2 := Lib.hid (bthen r1 r2)
  clear hW1 hW2 p1 r2
  by_cases h2 : tk = 2
  · subst h2
    obtain ⟨W, hW, ⟨l0, l1, l2⟩, hB⟩ := fin 2 ti ⟨#[]⟩
    have HW := Lib.hid hW
    have HB := Lib.hid hB
    clear fin hW hcon HC hB
    by_cases h0 : 0 ≤ ti
    · have hX : conX ⟨2, ts, ti, tp⟩ = some ⟨2, ti, []⟩ := by simp [conX, h0]
      rw [hX]
      unfold vVal
      simp only [str_nil]
      clear hX
      generalize str ts = bs at *
      go_enter Tryz.func170, Tryz.ntmps170
      go_wp2_with (first | (rw [← HW.out]) | (rw [← HW2.out]) | (rw [← HW1.out]))
      go_region
      rw [← HW.out]
      go_wp2_with fail
      exact bodyPost_ret (v := .tuple #[.agg #[.int .i64 2, .int .i64 ti, .string ⟨#[]⟩], .bool true]) (by simp [results, Tryz.results170, go_sem, l0, l1, l2]) rfl ⟨rfl, HB.out.drew⟩
    · have hX : conX ⟨2, ts, ti, tp⟩ = none := by simp [conX, h0]
      rw [hX]
      simp only
      clear hX
      generalize str ts = bs at *
      go_enter Tryz.func170, Tryz.ntmps170
      go_wp2_with (first | (rw [← HW.out]) | (rw [← HW2.out]) | (rw [← HW1.out]))
      go_region
      rw [← HW.out]
      go_wp2_with fail
      exact bodyPost_ret (v := .tuple #[.agg #[.int .i64 2, .int .i64 ti, .string ⟨#[]⟩], .bool false]) (by simp [results, Tryz.results170, go_sem, l0, l1, l2]; omega) rfl ⟨⟨2, ti, _, rfl⟩, HB.out.drew⟩
  · have e2 : (tk == 2) = false := by simpa using h2
    by_cases h3 : tk = 3
    · subst h3
      obtain ⟨W, hW, ⟨l0, l1, l2⟩, hB⟩ := fin 3 0 (str ts)
      have HW := Lib.hid hW
      have HB := Lib.hid hB
      clear fin hW hcon HC hB
      have hX : conX ⟨3, ts, ti, tp⟩ = some ⟨3, 0, ts⟩ := by simp [conX]
      rw [hX]
      unfold vVal
      simp only
      generalize str ts = bs at *
      go_enter Tryz.func170, Tryz.ntmps170
      go_wp2_with (first | (rw [← HW.out]) | (rw [← HW2.out]) | (rw [← HW1.out]))
      exact bodyPost_ret (v := .tuple #[.agg #[.int .i64 3, .int .i64 0, .string bs], .bool true]) (by simp [results, Tryz.results170, go_sem, l0, l1, l2]) rfl ⟨rfl, HB.out⟩
    · have e3 : (tk == 3) = false := by simpa using h3
      by_cases h4 : tk = 4
      · subst h4
        obtain ⟨W, hW, ⟨l0, l1, l2⟩, hB⟩ := fin 4 0 (str ts)
        have HW := Lib.hid hW
        have HB := Lib.hid hB
        clear fin hW hcon HC hB
        have hX : conX ⟨4, ts, ti, tp⟩ = some ⟨4, 0, ts⟩ := by simp [conX]
        rw [hX]
        unfold vVal
        simp only
        generalize str ts = bs at *
        go_enter Tryz.func170, Tryz.ntmps170
        go_wp2_with (first | (rw [← HW.out]) | (rw [← HW2.out]) | (rw [← HW1.out]))
        exact bodyPost_ret (v := .tuple #[.agg #[.int .i64 4, .int .i64 0, .string bs], .bool true]) (by simp [results, Tryz.results170, go_sem, l0, l1, l2]) rfl ⟨rfl, HB.out⟩
      · have e4 : (tk == 4) = false := by simpa using h4
        by_cases h1 : tk = 1
        · subst h1
          have hX : conX ⟨1, ts, ti, tp⟩ = conX ⟨1, ts, 0, 0⟩ := by simp [conX]
          rw [hX]
          clear hX hcon fin
          have q1' := q1
          generalize hco : conX ⟨1, ts, 0, 0⟩ = co at *
          clear hco
          generalize str ts = bs at *
          cases co with
          | none =>
            go_enter Tryz.func170, Tryz.ntmps170
            go_wp2_with (first | (rw [← HW2.out]) | (rw [← HW1.out]))
            refine (HC.out _).mono ?_
            rintro e w3 ⟨rfl, b3⟩
            obtain ⟨W, hW, hq, -, -, hB⟩ := stored3 (q1'.later b3) (.int .i64 0) (.int .i64 0) (.string ⟨#[]⟩)
            obtain ⟨j0, j1, j2⟩ := (q1'.later b3).cells
            obtain ⟨i0, i1, i2⟩ := (q1'.later b3).free
            obtain ⟨l0, l1, l2⟩ := hq.cells
            have HW := Lib.hid hW
            have HB := Lib.hid ((bthen R2.out b3).trans (hB _ (Nat.le_succ _)))
            clear hW hq hB b3
            unfold vVal v0
            simp only [str_nil]
            go_wp2_with (first | (rw [← HW.out]))
            exact bodyPost_ret (v := .tuple #[.agg #[.int .i64 0, .int .i64 0, .string ⟨#[]⟩], .bool false]) (by simp [results, Tryz.results170, go_sem, l0, l1, l2]) rfl ⟨⟨0, 0, _, rfl⟩, HB.out⟩
          | some v =>
            unfold vVal at *
            simp only at HC ⊢
            generalize v.k = vk at *
            generalize v.i = vi at *
            generalize str v.s = vs at *
            go_enter Tryz.func170, Tryz.ntmps170
            go_wp2_with (first | (rw [← HW2.out]) | (rw [← HW1.out]))
            refine (HC.out _).mono ?_
            rintro e w3 ⟨rfl, b3⟩
            obtain ⟨W, hW, hq, -, -, hB⟩ := stored3 (q1'.later b3) (.int .i64 vk) (.int .i64 vi) (.string vs)
            obtain ⟨j0, j1, j2⟩ := (q1'.later b3).cells
            obtain ⟨i0, i1, i2⟩ := (q1'.later b3).free
            obtain ⟨l0, l1, l2⟩ := hq.cells
            have HW := Lib.hid hW
            have HB := Lib.hid ((bthen R2.out b3).trans (hB _ (Nat.le_succ _)))
            clear hW hq hB b3
            go_wp2_with (first | (rw [← HW.out]))
            exact bodyPost_ret (v := .tuple #[.agg #[.int .i64 vk, .int .i64 vi, .string vs], .bool true]) (by simp [results, Tryz.results170, go_sem, l0, l1, l2]) rfl ⟨rfl, HB.out⟩
        · have e1 : (tk == 1) = false := by simpa using h1
          rw [hcon h2 h3 h4 h1]
          simp only
          obtain ⟨W, hW, ⟨l0, l1, l2⟩, hB⟩ := fin 0 0 ⟨#[]⟩
          have HW := Lib.hid hW
          have HB := Lib.hid hB
          clear fin hW hcon HC hB
          generalize str ts = bs at *
          go_enter Tryz.func170, Tryz.ntmps170
          go_wp2_with (first | (rw [← HW.out]) | (rw [← HW2.out]) | (rw [← HW1.out]))
          exact bodyPost_ret (v := .tuple #[.agg #[.int .i64 0, .int .i64 0, .string ⟨#[]⟩], .bool false]) (by simp [results, Tryz.results170, go_sem, l0, l1, l2]) rfl ⟨⟨0, 0, _, rfl⟩, HB.out⟩
end Go.Proofs.YthohfegnphocbaaGreatDoor
