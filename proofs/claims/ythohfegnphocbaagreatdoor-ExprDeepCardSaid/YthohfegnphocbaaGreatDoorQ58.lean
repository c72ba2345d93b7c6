/- Contracts of find and Cols, of any expression whose columns have short names. Condition: the table of powers is there. -/
import Derived.Test.YthohfegnphocbaaGreatDoorQ57
import Derived.Test.YthohfegnphocbaaGreatDoorQ34
import Derived.Carry
import Derived.Test.YthohfegnphocbaaGreatDoorQ35
import Derived.Test.YthohfegnphocbaaGreatDoorQ55
import Derived.Test.YthohfegnphocbaaGreatDoorQ56
import Derived.Test.YthohfegnphocbaaGreatDoorQ13
import Derived.Deep.RegionHeld3
namespace Go.Proofs.YthohfegnphocbaaGreatDoor
open Go.RowKit Go.WideMaps Go.Maps
theorem sizeL_take (l : List E) (k : Nat) (hk : k < l.length) : E.sizeL (l.take (k + 1)) = E.sizeL (l.take k) + l[k].size := by
  have key : ∀ l m : List E, E.sizeL (l ++ m) = E.sizeL l + E.sizeL m := by
    intro l m
    induction l with
    | nil => simp [E.sizeL]
    | cons x l ih => simp only [List.cons_append, E.sizeL, ih]; omega
  rw [List.take_succ_eq_append_getElem hk, key]
  simp [E.sizeL]
theorem sizeL_le (l : List E) (k : Nat) (hk : k < l.length) : E.sizeL (l.take k) + l[k].size ≤ E.sizeL l := by
  have key : ∀ l m : List E, E.sizeL (l ++ m) = E.sizeL l + E.sizeL m := by
    intro l m
    induction l with
    | nil => simp [E.sizeL]
    | cons x l ih => simp only [List.cons_append, E.sizeL, ih]; omega
  have h1 := key (l.take (k + 1)) (l.drop (k + 1))
  rw [List.take_append_drop] at h1
  have := sizeL_take l k hk
  omega
theorem colsL_len (l : List E) : ∀ s : List E × DataW Unit, (E.colsL l s).1.length ≤ s.1.length + E.sizeL l := by
  induction l with
  | nil => intro s; simp [E.colsL, E.sizeL]
  | cons x l ih =>
    intro s
    have h1 := cols_len x s
    have h2 := ih (x.cols s)
    simp only [E.colsL, E.sizeL]
    omega
set_option maxRecDepth 100000 in
set_option maxHeartbeats 8000000 in
theorem find_any (B b mb : Nat) (h10 : 10 ≤ B) (e : E) : e.pc = true → ∀ (st : List E × DataW Unit) (u : Value) (k : Nat) (x : Value) (w : World), FAt w B b mb st u k → EAt (fun j => j < B) w e x → BV.Env w → k + e.size ≤ 1000000 → st.1.length + e.size ≤ 1000000 →
    Calls Tryz.prog 43 #[.pointer (some ⟨b, 0, none⟩), x] w fun r w' => r = .returned (.tuple #[]) ∧ (∃ u' k', FAt w' B b mb (e.cols st) u' k' ∧ k' ≤ k + e.size) ∧ Below B w w' := by
  induction e using E.ind with
  | h o v t n l ih =>
    intro hpc st u k x w hF hx hE hk hs
    obtain ⟨A, c, rfl, hsub⟩ := hx
    simp only [E.pc, Bool.and_eq_true] at hpc
    obtain ⟨hp1, hp2⟩ := hpc
    have hp3 := pcL_iff.1 hp2
    by_cases ho : o = wCol
    · subst ho
      simp only [bne_self_eq_false, Bool.false_or, Bool.and_eq_true, decide_eq_true_eq, List.isEmpty_iff] at hp1
      obtain ⟨⟨⟨rfl, rfl⟩, ht⟩, hn⟩ := hp1
      have h1 := find_col t n ht hn A c w B b mb k st u hF hE (by omega) (by omega)
      refine h1.mono ?_
      rintro r w' ⟨rfl, ⟨u', k', h2, h3⟩, h4⟩
      refine ⟨rfl, ⟨u', k', ?_, h3⟩, h4⟩
      have : (E.mk wCol v0 t n []).cols st = hit (col t n) st := by
        simp only [E.cols, E.colsL, beq_self_eq_true, if_true]
        rfl
      rw [this]
      exact h2
    · have hon : (o == wCol) = false := by simpa using ho
      have hcols : ∀ s : List E × DataW Unit, (E.mk o v t n l).cols s = E.colsL l s := fun s => by
        simp only [E.cols]
        rw [if_neg (by rw [hon]; decide)]
      rw [hcols]
      have hsz : (E.mk o v t n l).size = E.sizeL l + 1 := rfl
      rw [hsz] at hk hs ⊢
      obtain ⟨hlc, hcm, hmem⟩ := hsub
      have hm : l.length ≤ 9223372036854775807 := Nat.le_trans hlc hcm
      have HI := Lib.hid (fun (i : Nat) (hi : i < l.length) => ih l[i] (List.getElem_mem hi) (hp3 _ (List.getElem_mem hi)))
      have hne : ((str o).toList == [99, 111, 108]) = false := by rw [Lib.toList_data, str_list]; exact hon
      have hst := colsL_len (l.take 0) st
      simp only [E.op, E.v, E.tb, E.nm, E.l, eVal]
      generalize str o = bo at *
      generalize str t = bt at *
      generalize str n = bn at *
      generalize str v.s = bs at *
      generalize v.k = vk at *
      generalize v.i = vi at *
      obtain ⟨W1, hW1, q1, z1, r1⟩ := box7 w (.string bo) (.int .i64 vk) (.int .i64 vi) (.string bs) (.string bt) (.string bn) (.slice A l.length c)
      have hBw : B ≤ w.heap.size := Nat.le_of_lt (Nat.lt_of_le_of_lt hF.bB hF.lt)
      have HF0 := Lib.hid (hF.later r1)
      have HB0 := Lib.hid (r1.mono hBw)
      obtain ⟨x0, x1, x2, x3, x4, x5, x6⟩ := q1.cells
      have HM := Lib.hid hmem
      have HE := Lib.hid hE
      have HW1 := Lib.hid hW1
      have HP := Lib.hid hk
      have HS := Lib.hid hs
      clear ih hmem hlc hcm hW1 q1 r1 z1 hF hE hon hcols hsz hp1 hp2 hp3 ho hst hk hs
      go_enter Tryz.func43, Tryz.ntmps43
      go_wp2_with (rw [← HW1.out])
      clear x0 x1 x2 x3 x4 x5 x6
      go_loopw [42] (fun iv wr => ∃ (i : Nat) (u' : Value) (n' : Nat), i ≤ l.length ∧ iv = .int .i64 i ∧ Hid (FAt wr B b mb (E.colsL (l.take i) st) u' n') ∧ Hid (n' ≤ k + E.sizeL (l.take i)) ∧ Hid (Below B w wr)) (fun iv _ => l.length - (intOf iv).toNat)
      case atStart => exact ⟨0, u, k, Nat.zero_le _, rfl, HF0, Lib.hid (Nat.le_add_right _ _), HB0⟩
      case round =>
        obtain ⟨i, u', n', hi, rfl, HF, HN, HB⟩ := hrel
        by_cases hlt : i < l.length
        · obtain ⟨g, off, rfl, hS, hg, hl⟩ := HM.out (by omega)
          obtain ⟨A', c', ⟨g0, g1, g2, g3, g4, g5, g6⟩, hs'⟩ := hl.get i hlt
          have hkz : (i : Int) < (l.length : Int) := by omega
          have i0 := (HB.out.cell (p := ⟨g, off + i * 7, none⟩) hS).trans g0
          have i1 := (HB.out.cell (p := ⟨g, off + i * 7 + 1, none⟩) hS).trans g1
          have i2 := (HB.out.cell (p := ⟨g, off + i * 7 + 2, none⟩) hS).trans g2
          have i3 := (HB.out.cell (p := ⟨g, off + i * 7 + 3, none⟩) hS).trans g3
          have i4 := (HB.out.cell (p := ⟨g, off + i * 7 + 4, none⟩) hS).trans g4
          have i5 := (HB.out.cell (p := ⟨g, off + i * 7 + 5, none⟩) hS).trans g5
          have i6 := (HB.out.cell (p := ⟨g, off + i * 7 + 6, none⟩) hS).trans g6
          obtain ⟨W2, W, hW2, hW, b1, b2, hz, hb1, hb2⟩ := made7 wr (.string (str l[i].op)) (.int .i64 l[i].v.k) (.int .i64 l[i].v.i) (.string (str l[i].v.s)) (.string (str l[i].tb)) (.string (str l[i].nm)) (.slice A' l[i].l.length c')
          have hBr : B ≤ wr.heap.size := Nat.le_trans hBw HB.out.size
          have HB2 := Lib.hid (HB.out.trans (hb2.mono hBr))
          have hE' : EAt (fun j => j < B) W l[i] (eVal l[i].op l[i].v l[i].tb l[i].nm (.slice A' l[i].l.length c')) := by
            have h0 : EAt (fun j => j < B) w l[i] (eVal l[i].op l[i].v l[i].tb l[i].nm (.slice A' l[i].l.length c')) := ⟨A', c', rfl, hs'⟩
            exact h0.keep (fun j hj _ => ⟨hj, HB2.out.block j hj⟩) HB2.out.size
          have hle := sizeL_le l i hlt
          have hcl := colsL_len (l.take i) st
          have hn := HN.out
          have hp := HP.out
          have hs2 := HS.out
          have HC := Lib.hid (HI.out i hlt (E.colsL (l.take i) st) u' n' _ W (HF.out.later hb2) hE' (HE.out.below HB2.out h10) (by omega) (by omega))
          rw [← colsL_take l i hlt] at HC
          have HZ : Hid (E.sizeL (l.take (i + 1)) = E.sizeL (l.take i) + l[i].size) := Lib.hid (sizeL_take l i hlt)
          have HW2 := Lib.hid hW2
          have HW := Lib.hid hW
          obtain ⟨f10, f11, f12, f13, f14, f15, f16⟩ := b1.free
          obtain ⟨y10, y11, y12, y13, y14, y15, y16⟩ := b2.cells
          obtain ⟨p10, p11, p12, p13, p14, p15, p16⟩ := b1.cells
          unfold eVal at HC
          generalize str l[i].op = bo' at *
          generalize str l[i].tb = bt' at *
          generalize str l[i].nm = bn' at *
          generalize str l[i].v.s = bs' at *
          generalize l[i].v.k = vk' at *
          generalize l[i].v.i = vi' at *
          generalize l[i].l.length = ln' at *
          generalize l[i].size = sz' at *
          clear hW2 hW hs' hl hE' g0 g1 g2 g3 g4 g5 g6 b1 b2 hb1 hb2 HI HM HB0 HF0 hle hcl hn hp hs2
          go_wp2_with (first | (rw [← HW.out]) | (rw [← HW2.out]))
          refine (HC.out).mono ?_
          rintro e w3 ⟨rfl, ⟨u3, n3, F3, hn3⟩, b3⟩
          have HF3 := Lib.hid F3
          have HN3 : Hid (n3 ≤ k + E.sizeL (l.take (i + 1))) := Lib.hid (by rw [HZ.out]; have := HN.out; omega)
          have HB3 := Lib.hid (HB2.out.trans b3)
          clear F3 hn3 b3
          go_wp2_with fail
          go_roundw
          case measure => simp [intOf]; omega
          case rel => exact ⟨i + 1, u3, n3, by omega, by go_num, HF3, HN3, HB3⟩
        · have hke : i = l.length := by omega
          have hkz : ¬ (i : Int) < (l.length : Int) := by omega
          subst hke
          rw [List.take_length] at HF HN
          clear HM HI HB0 HF0
          go_wp2_with fail
          go_end0
          exact ⟨rfl, ⟨u', n', HF.out, by have := HN.out; omega⟩, HB.out⟩
end Go.Proofs.YthohfegnphocbaaGreatDoor
namespace Go.Proofs.YthohfegnphocbaaGreatDoor
open Go.RowKit Go.WideMaps Go.Maps
def CAt (w : World) (u : Value) (l : List E) : Prop := ∃ A c, u = .slice A l.length c ∧ l.length ≤ 9223372036854775807 ∧ (0 < l.length → ∃ g, A = some ⟨g, 0, none⟩ ∧ g < w.heap.size ∧ LCells (fun _ => True) w l g 0)
theorem CAt.later {w w' : World} {u : Value} {l : List E} (h : CAt w u l) (hb : Below w.heap.size w w') : CAt w' u l := by
  obtain ⟨A, c, h1, h2, h3⟩ := h
  refine ⟨A, c, h1, h2, fun h0 => ?_⟩
  obtain ⟨g, hA, hg, hl⟩ := h3 h0
  refine ⟨g, hA, Nat.lt_of_lt_of_le hg hb.size, LCells.of fun j hj => ?_⟩
  obtain ⟨A', c', h4, h5⟩ := hl.get j hj
  exact ⟨A', c', h4.same (hb.block g hg), sub_later h5 hb⟩
theorem FAt.list {w : World} {B b mb n : Nat} {st : List E × DataW Unit} {u : Value} (h : FAt w B b mb st u n) (hm : st.1.length ≤ 1000000) : CAt w u st.1 := by
  obtain ⟨rs, h1, h2, h3⟩ := h.own
  have hlen : st.1.length = rs.length := by rw [← h3, List.length_map]
  have hsub : ∀ r ∈ rs, Sub (fun _ => True) w r.1 r.2.1 r.2.2 := fun r hr => by
    obtain ⟨h4, h5⟩ := h2 r hr
    rw [Sub.eq, h4, h5]
    exact ⟨Nat.le_refl _, Nat.zero_le _, fun h => by simp at h⟩
  rcases h1.2 with ⟨hv, h0⟩ | ⟨g, cap, cur, hv, hg, hgg, hn, hmm, hcs, _⟩
  · exact ⟨none, 0, by rw [hv, hlen, h0], by omega, fun h => by omega⟩
  · have hc := h1.cells (g := g) (by rw [hv]; rfl)
    refine ⟨some ⟨g, 0, none⟩, cap, by rw [hv, hlen], by omega, fun _ => ⟨g, rfl, (Array.getElem?_eq_some_iff.1 hgg).1, ?_⟩⟩
    rw [← h3]
    exact lcells_of hc hsub
set_option maxRecDepth 100000 in
set_option maxHeartbeats 8000000 in
theorem sameAll_any (l : List E) (u v : Value) (w : World) (hu : CAt w u l) (hv : CAt w v l) : Calls Tryz.prog 23 #[u, v] w fun r w' => r = .returned (.bool true) ∧ Below w.heap.size w w' := by
  obtain ⟨A, c, rfl, hm, hA⟩ := hu
  obtain ⟨A', c', rfl, -, hA'⟩ := hv
  have HI := Lib.hid (fun (j : Nat) (hj : j < l.length) (x y : Value) (W : World) (hx : EAt (fun _ => True) W l[j] x) (hy : EAt (fun _ => True) W l[j] y) => rSame_any l[j] l[j] x y _ _ W hx hy)
  have HL := Lib.hid hA
  have HM := Lib.hid hA'
  have HB0 := Lib.hid (Below.refl w.heap.size w)
  clear hA hA'
  obtain ⟨ln, hln⟩ : ∃ ln, ln = l.length := ⟨_, rfl⟩
  rw [← hln] at hm ⊢
  have HLN := Lib.hid hln
  clear hln
  go_enter Tryz.func23, Tryz.ntmps23
  go_wp2_with fail
  go_loopw [13] (fun iv wr => ∃ k : Nat, k ≤ ln ∧ iv = .int .i64 k ∧ Hid (Below w.heap.size w wr)) (fun iv _ => ln - (intOf iv).toNat)
  case atStart => exact ⟨0, Nat.zero_le _, rfl, HB0⟩
  case round =>
    obtain ⟨k, hk, rfl, HB⟩ := hrel
    by_cases hlt : k < ln
    · have hkl : k < l.length := by have := HLN.out; omega
      obtain ⟨g, rfl, hg, hcl⟩ := HL.out (by omega)
      obtain ⟨g', rfl, hg', hcm⟩ := HM.out (by omega)
      obtain ⟨A1, c1', h1, hs3⟩ := hcl.get k hkl
      obtain ⟨A2, c2', h2, hs4⟩ := hcm.get k hkl
      have h1w := h1.same (HB.out.block g hg)
      have h2w := h2.same (HB.out.block g' hg')
      rw [Nat.zero_add] at h1w h2w
      obtain ⟨i0, i1, i2, i3, i4, i5, i6⟩ := h1w
      obtain ⟨j0, j1, j2, j3, j4, j5, j6⟩ := h2w
      have hkz : (k : Int) < (ln : Int) := by omega
      have hE : EAt (fun _ => True) w l[k] (eVal l[k].op l[k].v l[k].tb l[k].nm (.slice A1 l[k].l.length c1')) := ⟨A1, c1', rfl, hs3⟩
      have hF : EAt (fun _ => True) w l[k] (eVal l[k].op l[k].v l[k].tb l[k].nm (.slice A2 l[k].l.length c2')) := ⟨A2, c2', rfl, hs4⟩
      have hbd : Below w.heap.size w wr.drew := HB.out.drew
      have HC := Lib.hid (HI.out k hkl _ _ wr.drew (hE.later hbd) (hF.later hbd))
      rw [same_refl] at HC
      have HBV := Lib.hid hbd
      unfold eVal at HC
      generalize str l[k].op = co at *
      generalize str l[k].tb = ct at *
      generalize str l[k].nm = cn at *
      generalize str l[k].v.s = cs at *
      generalize l[k].v.k = ck at *
      generalize l[k].v.i = ci at *
      generalize l[k].l.length = cl at *
      clear hs3 hs4 hcl hcm hE hF h1 h2 HB HI HL HM hbd HB0
      go_wp2_with fail
      go_still_tail 8, (by kernel_rfl)
      change wpList _ _ _ _ _ wr.drew
      go_wp2_with (go_at_call 12; refine (HC.out).mono ?_; rintro e w4 ⟨rfl, b4'⟩)
      go_roundw
      case measure => simp [intOf]; omega
      case rel => exact ⟨k + 1, by omega, by go_num, Lib.hid (bthen HBV.out b4')⟩
    · have hke : k = ln := by omega
      have hkz : ¬ (k : Int) < (ln : Int) := by omega
      clear HM HI HL HB0
      go_wp2_with fail
      go_ret
      exact ⟨rfl, HB.out⟩
end Go.Proofs.YthohfegnphocbaaGreatDoor
namespace Go.Proofs.YthohfegnphocbaaGreatDoor
open Go.RowKit Go.WideMaps Go.Maps
def st0 : List E × DataW Unit := ([], .map [])
set_option maxRecDepth 100000 in
set_option maxHeartbeats 8000000 in
theorem cols_any (e : E) (x : Value) (S : Nat → Prop) (w : World) (hx : EAt S w e x) (hp : e.pc = true) (hE : BV.Env w) (hs : e.size ≤ 100000) :
    Calls Tryz.prog 24 #[x] w fun r w' => (∃ u, r = .returned u ∧ CAt w' u (e.cols st0).1) ∧ Below w.heap.size w w' := by
  have hxl := hx.lim
  obtain ⟨s0, i1, i2, s3, s4, s5, A, n, c, rfl⟩ := hx.agg
  obtain ⟨W1, hW1, q1, z1, r1⟩ := box7 w (.string s0) (.int .i64 i1) (.int .i64 i2) (.string s3) (.string s4) (.string s5) (.slice A n c)
  obtain ⟨W2, hW2⟩ : ∃ W2, W2 = W1.alloc (.cells #[.slice none 0 0, .map none] 77) := ⟨_, rfl⟩
  obtain ⟨W3, hW3⟩ : ∃ W3, W3 = W2.alloc (.map #[] 0) := ⟨_, rfl⟩
  obtain ⟨W4, hW4⟩ : ∃ W4, W4 = W3.setCell ⟨W1.heap.size, 1, none⟩ (.map (some W2.heap.size)) := ⟨_, rfl⟩
  have z2 : W2.heap.size = W1.heap.size + 1 := by rw [hW2]; simp
  have z3 : W3.heap.size = W2.heap.size + 1 := by rw [hW3]; simp
  have r2 : Below W1.heap.size W1 W2 := by rw [hW2]; exact (Below.refl _ _).alloc (Nat.le_refl _) _
  have r3 : Below W2.heap.size W2 W3 := by rw [hW3]; exact (Below.refl _ _).alloc (Nat.le_refl _) _
  have b2 : W2.heap[W1.heap.size]? = some (.cells #[.slice none 0 0, .map none] 77 (0, 0)) := by rw [hW2]; exact heap_alloc_new W1 _
  have b3 : W3.heap[W1.heap.size]? = some (.cells #[.slice none 0 0, .map none] 77 (0, 0)) := (r3.block _ (by omega)).trans b2
  have m3 : W3.ownsMap Tryz.prog 9 (plainElem (H := Unit) Tryz.prog 3) W2.heap.size 0 (.map []) := by rw [hW3]; exact World.ownsMap_made _ _ _ _
  have r4 : Below W1.heap.size W3 W4 := by rw [hW4]; exact (Below.refl _ _).setCell (p := ⟨W1.heap.size, 1, none⟩) (Nat.le_refl _) _
  have b4 : W4.heap[W1.heap.size]? = some (.cells #[.slice none 0 0, .map (some W2.heap.size)] 77 (0, 0)) := by
    rw [hW4]
    have := heap_set_same (.map (some W2.heap.size)) (o := 1) b3
    simpa using this
  have m4 : W4.ownsMap Tryz.prog 9 (plainElem (H := Unit) Tryz.prog 3) W2.heap.size 0 (.map []) := by
    rw [hW4]
    exact m3.kept (set_grown _ _ _ _) (by intro e; injection e with e; omega)
  have HF := Lib.hid (show FAt W4 W1.heap.size W1.heap.size W2.heap.size st0 (.slice none 0 0) 0 from ⟨b4, ⟨[], World.ownsRow_nil _ _ _ _, (fun r hr => by simp at hr), rfl⟩, m4, Nat.le_refl _, by omega, by omega, by simp [Value.ownBlock], by simp [Value.ownBlock]⟩)
  have rA : Below w.heap.size w W4 := ((r1.trans (r2.mono (by omega))).trans (r3.mono (by omega))).trans (r4.mono (by omega))
  have HB := Lib.hid rA
  have h10 := hE.size
  have hx4 : EAt (fun j => j < W1.heap.size) W4 e (.agg #[.string s0, .int .i64 i1, .int .i64 i2, .string s3, .string s4, .string s5, .slice A n c]) := hxl.keep (fun k hk hlt => ⟨by omega, rA.block k hlt⟩) rA.size
  have HC := Lib.hid (find_any W1.heap.size W1.heap.size W2.heap.size (by omega) e hp st0 (.slice none 0 0) 0 _ W4 HF.out hx4 (hE.below rA h10) (by omega) (by show 0 + _ ≤ _; omega))
  have HQ4 := Lib.hid (((q1.later r2).later r3).same (w' := W4) (by rw [hW4, Below.heap_setCell _ _ _ _ (show w.heap.size ≠ W1.heap.size by omega)]))
  have hlen := cols_len e st0
  have HLE : Hid ((e.cols st0).1.length ≤ 1000000) := Lib.hid (by have : st0.1.length = 0 := rfl; omega)
  have hmm := @run_makeMap Tryz.prog
  obtain ⟨v0, v1, v2, v3, v4, v5, v6⟩ := HQ4.out.cells
  have d0 : W3.cell? ⟨W1.heap.size, 0, none⟩ = some (.slice none 0 0) := by rw [Lib.cell_of_heap b3]; rfl
  have d1 : W3.cell? ⟨W1.heap.size, 1, none⟩ = some (.map none) := by rw [Lib.cell_of_heap b3]; rfl
  have d2 : W3.frozen? ⟨W1.heap.size, 1, none⟩ = false := Lib.frozen_of_heap b3 1
  have HW1 := Lib.hid hW1
  have HW2 := Lib.hid hW2
  have HW3 := Lib.hid hW3
  have HW4 := Lib.hid hW4
  have HZ1 := Lib.hid z1
  generalize (e.cols st0) = res at *
  clear hx hxl hx4 hp hE hs q1 r1 r2 r3 r4 rA b2 b3 b4 m3 m4 hW1 hW2 hW3 hW4 z1 z2 z3 h10 hlen
  go_enter Tryz.func24, Tryz.ntmps24
  go_wp2_with (first | (rw [← HW1.out]) | (rw [← HW2.out]) | (rw [← HW3.out]) | (rw [← HW4.out]))
  refine HC.out.mono ?_
  rintro r w5 ⟨rfl, ⟨u, k, F5, -⟩, b5⟩
  have HF5 := Lib.hid F5
  have HB5 := Lib.hid (HB.out.trans (b5.mono (by have := HZ1.out; omega)))
  obtain ⟨x0, x1, x2⟩ := F5.cells
  clear F5 b5 HC
  go_wp2_with fail
  go_ret
  exact ⟨⟨_, rfl, HF5.out.list HLE.out⟩, HB5.out⟩
end Go.Proofs.YthohfegnphocbaaGreatDoor
namespace Go.Proofs.YthohfegnphocbaaGreatDoor
open Go.RowKit
theorem same_not (e : E) : e.same (op1 wNot [e]) = false := by
  cases h : e.same (op1 wNot [e]) with
  | false => rfl
  | true =>
    have h1 := congrArg E.deep (same_eq h)
    simp [op1, E.deep, E.deepL] at h1
theorem par_size {l : List UInt8} (h : (parP l).2.2 = 0) : ∃ x, parP l = (x, 0, 0) ∧ Fine resB x ∧ x.deep ≤ 40 ∧ x.size ≤ 5000 := by
  obtain ⟨vs, f, x, hl, hc, hp, hd, hpar, hf⟩ := par_inv h
  refine ⟨x, hpar, hf, hd, ?_⟩
  have h1 := (dqs resB f).1 1 _ x vs.length hp
  have h2 := (cut_tks l 0 _ hc).2
  rw [List.length_append] at h2
  simp at h2
  omega
set_option maxRecDepth 100000 in
set_option maxHeartbeats 8000000 in
theorem deep_law (s : ByteArray) (w : World) (hE : Env w) (hV : BV.Env w) : Calls Tryz.prog 8 #[.string s] w fun r w' => r = .returned (.bool true) ∧ Below w.heap.size w w' := by
  have HL := Lib.hid (live_any w hE hV)
  have HP := Lib.hid (fun W (hb : Below w.heap.size w W) => parse_any s W (hE.later hb))
  by_cases hr : (parP s.data.toList).2.2 = 0
  · obtain ⟨x, hpar, hf, hd, hsz⟩ := par_size hr
    rw [hpar] at HP
    simp only at HP
    have HV := Lib.hid (fun W (hb : Below w.heap.size w W) => bv_later hV hb)
    have HCk : Hid (∀ (W : World) (v : Value) (hx : EAt (fun _ => True) W x v), Calls Tryz.prog 19 #[v] W fun r w' => r = .returned (.int .i64 0) ∧ Below W.heap.size W w') := Lib.hid (fun W v hx => by
      have h1 := eCheck_any x v _ W hx (fine_sn hf) (by omega)
      rw [chk_ok.2 ⟨fine_may hf (eat_lens hx), hd⟩] at h1
      exact h1)
    have HDx := Lib.hid (fun (W : World) (v : Value) (hx : EAt (fun _ => True) W x v) => deep_any x v _ W hx (by omega))
    have HDy := Lib.hid (fun (W : World) (v : Value) (hx : EAt (fun _ => True) W (op1 wNot [x]) v) => deep_any (op1 wNot [x]) v _ W hx (by simp [op1, E.deep, E.deepL]; omega))
    have hdy : (((op1 wNot [x]).deep : Nat) : Int) = (x.deep : Int) + 1 := by simp [op1, E.deep, E.deepL]
    rw [hdy] at HDy
    have HCx := Lib.hid (fun (W : World) (v : Value) (hx : EAt (fun _ => True) W x v) (hb : BV.Env W) => cols_any x v _ W hx (fine_pc hf) hb (by omega))
    have HCy := Lib.hid (fun (W : World) (v : Value) (hx : EAt (fun _ => True) W (op1 wNot [x]) v) (hb : BV.Env W) => cols_any (op1 wNot [x]) v _ W hx (fine_pc (.not x hf)) hb (by simp [op1, E.size, E.sizeL]; omega))
    rw [cols_not] at HCy
    have HSx := Lib.hid (fun (W : World) (u v : Value) (hx : EAt (fun _ => True) W x u) (hy : EAt (fun _ => True) W x v) => eSame_any x x u v _ _ W hx hy)
    rw [same_refl] at HSx
    have HSy := Lib.hid (fun (W : World) (u v : Value) (hx : EAt (fun _ => True) W x u) (hy : EAt (fun _ => True) W (op1 wNot [x]) v) => eSame_any x (op1 wNot [x]) u v _ _ W hx hy)
    rw [same_not] at HSy
    have HAll := Lib.hid (fun (u v : Value) (W : World) (hu : CAt W u (x.cols st0).1) (hv : CAt W v (x.cols st0).1) => sameAll_any _ u v W hu hv)
    generalize (x.cols st0).1 = cl at *
    obtain ⟨d, hdd⟩ : ∃ d, d = x.deep := ⟨_, rfl⟩
    rw [← hdd] at HDx HDy hd
    have hd40 : (d : Int) ≤ 40 := by omega
    clear hE hV hr hpar hf hdy hdd hsz hd
    go_enter Tryz.func8, Tryz.ntmps8
    go_wp2_with fail
    refine HL.out.mono ?_
    rintro r w2 ⟨rfl, b2⟩
    have HP2 := Lib.hid (HP.out w2 b2)
    have B2 := Lib.hid b2
    clear b2 HL HP
    go_wp2_with fail
    refine HP2.out.mono ?_
    rintro r w3 ⟨y, rfl, hy, b3⟩
    obtain ⟨s0, i1, i2, s3, s4, s5, A9, n9, c9, rfl⟩ := hy.agg
    obtain ⟨WB, hWB, qB, zB, mB⟩ := box7 w3 (.string s0) (.int .i64 i1) (.int .i64 i2) (.string s3) (.string s4) (.string s5) (.slice A9 n9 c9)
    have hyB := (hy.wide (S' := fun _ => True) (fun _ _ => trivial)).later mB
    have GB : Got WB (fun _ => True) x false (.agg #[.string s0, .int .i64 i1, .int .i64 i2, .string s3, .string s4, .string s5, .slice A9 n9 c9]) := ⟨x, hyB, fun _ => rfl⟩
    obtain ⟨WD, hWD, mD, L5⟩ := list_gotY (B := 0) GB (Nat.zero_le _) (fun _ _ => Nat.zero_le _)
    have HB3 := Lib.hid (bthen (bthen (bthen B2.out b3) mB) mD)
    have HYD := Lib.hid (hyB.later mD)
    have HQD := Lib.hid (qB.later mD)
    have HLD := Lib.hid L5
    obtain ⟨v0, v1, v2, v3, v4, v5, v6⟩ := qB.cells
    have HWB := Lib.hid hWB
    have HWD := Lib.hid hWD
    clear hWB hWD qB zB mB mD hy hyB GB L5 b3 B2 HP2
    go_wp2_with (first | (rw [← HWB.out]) | (rw [← HWD.out]))
    refine (rOp1 _ _ _ _ _).mono ?_
    rintro r w5 ⟨rfl, b5⟩
    have G5 := (HLD.out.later b5).whole wNot []
    obtain ⟨e5, h5, h6⟩ := G5
    have h6' : e5 = op1 wNot [x] := h6 rfl
    subst h6'
    obtain ⟨WC, hWC, qC, zC, mC⟩ := box7 w5 (.string ⟨#[110, 111, 116]⟩) (.int .i64 0) (.int .i64 0) (.string ⟨#[]⟩) (.string ⟨#[]⟩) (.string ⟨#[]⟩) (.slice (some ⟨WB.heap.size, 0, none⟩) 1 1)
    have HY : Hid (EAt (fun _ => True) WC (op1 wNot [x]) (.agg #[.string ⟨#[110, 111, 116]⟩, .int .i64 0, .int .i64 0, .string ⟨#[]⟩, .string ⟨#[]⟩, .string ⟨#[]⟩, .slice (some ⟨WB.heap.size, 0, none⟩) 1 1])) := Lib.hid ((h5.wide (S' := fun _ => True) (fun _ _ => trivial)).later mC)
    have HXC := Lib.hid ((HYD.out.later b5).later mC)
    have HQX := Lib.hid ((HQD.out.later b5).later mC)
    have HQY := Lib.hid qC
    have HB5 := Lib.hid (bthen (bthen HB3.out b5) mC)
    have HWC := Lib.hid hWC
    clear hWC qC zC mC h5 h6 b5 HB3 HYD HQD HLD v0 v1 v2 v3 v4 v5 v6
    go_wp2_with (rw [← HWC.out])
    generalize w3.heap.size = xb at *
    generalize w5.heap.size = yb at *
    generalize WB.heap.size = lb at *
    have P : Hid (Below WC.heap.size WC WC.drew) := Lib.hid ⟨rfl, rfl, rfl, Nat.le_refl _, fun _ _ => rfl⟩
    have HEn := Lib.hid (fun W (hb : Below WC.heap.size WC W) => HV.out W (bthen HB5.out hb))
    have HSS : Hid (∀ W, Below WC.heap.size WC W → (W.cell? ⟨xb, 0, none⟩ = some (.string s0) ∧ W.cell? ⟨xb, 1, none⟩ = some (.int .i64 i1) ∧ W.cell? ⟨xb, 2, none⟩ = some (.int .i64 i2) ∧ W.cell? ⟨xb, 3, none⟩ = some (.string s3) ∧ W.cell? ⟨xb, 4, none⟩ = some (.string s4) ∧ W.cell? ⟨xb, 5, none⟩ = some (.string s5) ∧ W.cell? ⟨xb, 6, none⟩ = some (.slice A9 n9 c9)) ∧
        (W.cell? ⟨yb, 0, none⟩ = some (.string ⟨#[110, 111, 116]⟩) ∧ W.cell? ⟨yb, 1, none⟩ = some (.int .i64 0) ∧ W.cell? ⟨yb, 2, none⟩ = some (.int .i64 0) ∧ W.cell? ⟨yb, 3, none⟩ = some (.string ⟨#[]⟩) ∧ W.cell? ⟨yb, 4, none⟩ = some (.string ⟨#[]⟩) ∧ W.cell? ⟨yb, 5, none⟩ = some (.string ⟨#[]⟩) ∧ W.cell? ⟨yb, 6, none⟩ = some (.slice (some ⟨lb, 0, none⟩) 1 1))) := Lib.hid (fun W hb => ⟨(HQX.out.later hb).cells, (HQY.out.later hb).cells⟩)
    have hwr : IntKind.i64.wrap ((d : Int) + 1) = (d : Int) + 1 := IntWalk.i64_in _ (by omega)
    go_region_held3 (fun w' => (w'.cell? ⟨xb, 0, none⟩ = some (.string s0) ∧ w'.cell? ⟨xb, 1, none⟩ = some (.int .i64 i1) ∧ w'.cell? ⟨xb, 2, none⟩ = some (.int .i64 i2) ∧ w'.cell? ⟨xb, 3, none⟩ = some (.string s3) ∧ w'.cell? ⟨xb, 4, none⟩ = some (.string s4) ∧ w'.cell? ⟨xb, 5, none⟩ = some (.string s5) ∧ w'.cell? ⟨xb, 6, none⟩ = some (.slice A9 n9 c9)) ∧
        (w'.cell? ⟨yb, 0, none⟩ = some (.string ⟨#[110, 111, 116]⟩) ∧ w'.cell? ⟨yb, 1, none⟩ = some (.int .i64 0) ∧ w'.cell? ⟨yb, 2, none⟩ = some (.int .i64 0) ∧ w'.cell? ⟨yb, 3, none⟩ = some (.string ⟨#[]⟩) ∧ w'.cell? ⟨yb, 4, none⟩ = some (.string ⟨#[]⟩) ∧ w'.cell? ⟨yb, 5, none⟩ = some (.string ⟨#[]⟩) ∧ w'.cell? ⟨yb, 6, none⟩ = some (.slice (some ⟨lb, 0, none⟩) 1 1)))
      (exact HSS.out _ P.out)
      (first
        | (go_at_call 19; with_reducible refine (HCk.out _ _ (HXC.out.later P.out)).mono ?_; rintro r w6 ⟨rfl, b6⟩; have P := Lib.hid (bthen P.out b6); clear b6)
        | (go_at_call 22; with_reducible refine (HDx.out _ _ (HXC.out.later P.out)).mono ?_; rintro r w6 ⟨rfl, b6⟩; have P := Lib.hid (bthen P.out b6); clear b6)
        | (go_at_call 22; with_reducible refine (HDy.out _ _ (HY.out.later P.out)).mono ?_; rintro r w6 ⟨rfl, b6⟩; have P := Lib.hid (bthen P.out b6); clear b6)
        | (go_at_call 24; with_reducible refine (HCx.out _ _ (HXC.out.later P.out) (HEn.out _ P.out)).mono ?_; rintro r w6 ⟨⟨u1, rfl, hu1⟩, b6⟩; have HU1 := Lib.hid hu1; (try have HU2 := Lib.hid (HU2.out.later b6)); have P := Lib.hid (bthen P.out b6); clear b6 hu1)
        | (go_at_call 24; with_reducible refine (HCy.out _ _ (HY.out.later P.out) (HEn.out _ P.out)).mono ?_; rintro r w6 ⟨⟨u2, rfl, hu2⟩, b6⟩; have HU2 := Lib.hid hu2; (try have HU1 := Lib.hid (HU1.out.later b6)); have P := Lib.hid (bthen P.out b6); clear b6 hu2)
        | (go_at_call 23; with_reducible refine (HAll.out _ _ _ HU2.out HU1.out).mono ?_; rintro r w6 ⟨rfl, b6⟩; have P := Lib.hid (bthen P.out b6); clear b6)
        | (go_at_call 25; with_reducible refine (HSx.out _ _ _ (HXC.out.later P.out) (HXC.out.later P.out)).mono ?_; rintro r w6 ⟨rfl, b6⟩; have P := Lib.hid (bthen P.out b6); clear b6)
        | (go_at_call 25; with_reducible refine (HSy.out _ _ _ (HXC.out.later P.out) (HY.out.later P.out)).mono ?_; rintro r w6 ⟨rfl, b6⟩; have P := Lib.hid (bthen P.out b6); clear b6))
    all_goals
      go_wp2_with fail
      go_ret
      exact ⟨rfl, bthen HB5.out P.out⟩
  · generalize parP s.data.toList = pp at *
    obtain ⟨e, q, r0⟩ := pp
    simp only at HP hr
    have hrf : (r0 != 0) = true := by simpa using hr
    clear hE hV hr
    go_enter Tryz.func8, Tryz.ntmps8
    go_wp2_with fail
    refine HL.out.mono ?_
    rintro r w2 ⟨rfl, b2⟩
    have HP2 := Lib.hid (HP.out w2 b2)
    have B2 := Lib.hid b2
    clear b2 HL HP
    go_wp2_with fail
    refine HP2.out.mono ?_
    rintro r w3 ⟨y, rfl, hy, b3⟩
    obtain ⟨s0, i1, i2, s3, s4, s5, A9, n9, c9, rfl⟩ := hy.agg
    obtain ⟨WB, hWB, qB, zB, mB⟩ := box7 w3 (.string s0) (.int .i64 i1) (.int .i64 i2) (.string s3) (.string s4) (.string s5) (.slice A9 n9 c9)
    have HB3 := Lib.hid (bthen (bthen B2.out b3) mB)
    have HWB := Lib.hid hWB
    clear hWB qB mB hy b3 B2 HP2 zB
    go_wp2_with (rw [← HWB.out])
    go_ret
    exact ⟨rfl, HB3.out⟩
end Go.Proofs.YthohfegnphocbaaGreatDoor
