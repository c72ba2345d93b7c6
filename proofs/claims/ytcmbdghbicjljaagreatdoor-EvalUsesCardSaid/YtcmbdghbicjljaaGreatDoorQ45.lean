/- Contract of eval's gather: the places of an expression, put into a set. Conditions: few parts; integers of 64 bits. -/
import Derived.Test.YtcmbdghbicjljaaGreatDoorQ23
import Derived.Test.YtcmbdghbicjljaaGreatDoorQ04
import Derived.Maps.OwnSet
import Derived.Test.YtcmbdghbicjljaaGreatDoorIter
import Derived.Lib.SlKeysI
import Derived.Test.YtcmbdghbicjljaaGreatDoorQ42
import Derived.Test.YtcmbdghbicjljaaGreatDoorQ43
import Derived.Test.YtcmbdghbicjljaaGreatDoorQ31
import Derived.Test.YtcmbdghbicjljaaGreatDoorQ14
set_option linter.unusedSimpArgs false
set_option linter.unusedVariables false
namespace Go.Proofs.YtcmbdghbicjljaaGreatDoor
open Go.RowKit Go.Maps
def uD : DataW Unit := .agg []
def keyI (i : Int) : Lit := .int .i64 i
theorem law3 : Keyed Tryz.prog 3 := int_keyed Tryz.underlying3
def SetAt (w : World) (mb n : Nat) (l : List Int) : Prop := w.ownsMap Tryz.prog 3 (unitElem (H := Unit)) mb n (setOf uD (l.map keyI))
theorem SetAt.lt {w : World} {mb n : Nat} {l : List Int} (h : SetAt w mb n l) : mb < w.heap.size := World.ownsMap.lt h
theorem SetAt.kept {w w' : World} {mb n : Nat} {l : List Int} {r : Option Nat} (h : SetAt w mb n l) (hg : w.grownBy w' r) (hr : some mb ≠ r) : SetAt w' mb n l := World.ownsMap.kept h hg hr
theorem bel_grown {w w' : World} (h : Below w.heap.size w w') (r : Option Nat) : w.grownBy w' r := ⟨h.os, h.tape, h.output, h.size, fun k hk _ => h.block k hk⟩
theorem SetAt.later {w w' : World} {mb n : Nat} {l : List Int} (h : SetAt w mb n l) (hb : Below w.heap.size w w') : SetAt w' mb n l := h.kept (bel_grown hb none) (by simp)
theorem SetAt.put {w' : World} {mb n : Nat} {l : List Int} {i : Int} (h : w'.ownsMap Tryz.prog 3 (unitElem (H := Unit)) mb (n + 1) ((setOf uD (l.map keyI)).put (keyI i) uD)) : SetAt w' mb (n + 1) (l ++ [i]) := by
  unfold SetAt
  rw [List.map_append, List.map_cons, List.map_nil, setOf_snoc]
  exact h
theorem wf_in {i : Int} (h : -9223372036854775808 ≤ i ∧ i ≤ 9223372036854775807) : (Lit.int .i64 i).wf = true := WalkArith.wf_i64 (by omega)
theorem key_in {i : Int} (h : -9223372036854775808 ≤ i ∧ i ≤ 9223372036854775807) : keyOf Tryz.prog 3 (.int .i64 i) = some (keyI i) := keyOf_int_mk Tryz.underlying3 (wf_in h)
theorem b7_grown {w w' : World} {g : Nat} {c0 c1 c2 c3 c4 c5 c6 : Value} {mb : Nat} (h : B7 w g c0 c1 c2 c3 c4 c5 c6) (hg : w.grownBy w' (some mb)) (hne : g ≠ mb) : B7 w' g c0 c1 c2 c3 c4 c5 c6 := h.same (hg.block g h.lt (by intro e; injection e with e; exact hne e))
theorem sub_grown {S : Nat → Prop} {w w' : World} {e : E} {A : Option Addr} {c mb : Nat} (h : Sub S w e A c) (hg : w.grownBy w' (some mb)) (hS : ∀ b, S b → b ≠ mb) : Sub S w' e A c :=
  Sub.keep (fun k hk hlt => ⟨hk, hg.block k hlt (by intro e; injection e with e; exact hS k hk e)⟩) hg.size e A c h
def Gath (mb n : Nat) (l : List Int) (e : E) (w : World) (q : Ending) (w' : World) : Prop := q = .returned (.tuple #[]) ∧ (∃ n', n' ≤ n + e.size ∧ Hid (SetAt w' mb n' (l ++ e.us))) ∧ Hid (w.grownBy w' (some mb))
theorem usL_next {l : List E} {k : Nat} (h : k < l.length) : E.usL (l.take (k + 1)) = E.usL (l.take k) ++ l[k].us := by
  induction l generalizing k with
  | nil => simp at h
  | cons a l ih =>
    cases k with
    | zero => simp [E.usL]
    | succ k =>
      have := ih (k := k) (by simpa using h)
      simp only [List.take_succ_cons, E.usL, List.getElem_cons_succ, List.append_assoc]
      rw [this]
theorem sizeL_next {l : List E} {k : Nat} (h : k < l.length) : E.sizeL (l.take (k + 1)) = E.sizeL (l.take k) + l[k].size := by
  induction l generalizing k with
  | nil => simp at h
  | cons a l ih =>
    cases k with
    | zero => simp [E.sizeL]
    | succ k =>
      have := ih (k := k) (by simpa using h)
      simp only [List.take_succ_cons, E.sizeL, List.getElem_cons_succ]
      omega
theorem sizeL_take (l : List E) (k : Nat) : E.sizeL (l.take k) ≤ E.sizeL l := by
  induction l generalizing k with
  | nil => simp [E.sizeL]
  | cons a l ih =>
    cases k with
    | zero => simp [E.sizeL]
    | succ k =>
      have := ih k
      simp only [List.take_succ_cons, E.sizeL]
      omega
set_option maxRecDepth 100000 in
set_option maxHeartbeats 8000000 in
theorem gather_any (e : E) : ∀ (x : Value) (S : Nat → Prop) (mb n : Nat) (acc : List Int) (w : World), EAt S w e x → (∀ b, S b → b ≠ mb) → SetAt w mb n acc → n + e.size ≤ 200000 → e.ints = true → Calls Tryz.prog 34 #[x, .map (some mb)] w (Gath mb n acc e w) := by
  induction e using E.ind with
  | h o v t n0 l ih =>
    rintro x S mb n acc w ⟨A, c, rfl, hsub⟩ hS hset hsz hin
    simp only [E.ints, Bool.and_eq_true, decide_eq_true_eq] at hin
    have hlen := len_size l
    have hszE : (E.mk o v t n0 l).size = E.sizeL l + 1 := rfl
    rw [hszE] at hsz
    obtain ⟨ln, hln⟩ : ∃ ln, ln = l.length := ⟨_, rfl⟩
    obtain ⟨W1, hW1, q1, z1, r1⟩ := box7 w (.string (str o)) (.int .i64 v.k) (.int .i64 v.i) (.string (str v.s)) (.string (str t)) (.string (str n0)) (.slice A ln c)
    have hgm : w.heap.size ≠ mb := by have := hset.lt; omega
    have eT : ((str o).toList == [97, 116]) = (o == wAt) := by rw [Lib.toList_data, str_list]; rfl
    have HW1 := Lib.hid hW1
    have HKEY := Lib.hid (key_in hin.1)
    have HIN := Lib.hid hin.2
    have HSB := Lib.hid hS
    have HSUB := Lib.hid (hsub)
    have HIH := Lib.hid ih
    have HM1 := Lib.hid (hset.later r1)
    have HG1 := Lib.hid (bel_grown r1 (some mb))
    have Q1 := Lib.hid q1
    have hw : v.i = v.i := rfl
    obtain ⟨a0, a1, a2, a3, a4, a5, a6⟩ := q1.cells
    have HLN := Lib.hid hln
    have hlm : ln ≤ 200000 := by omega
    simp only [E.op, E.v, E.tb, E.nm, E.l, eVal]
    rw [← hln]
    clear hW1 hsub ih hset r1 q1 z1 hin hS hln hlen hw hszE
    by_cases ho : o = wAt
    · have hb : (o == wAt) = true := by simpa using ho
      rw [hb] at eT
      have HO := Lib.hid ho
      clear hb ho
      have hun : n < maxLen := by unfold maxLen; omega
      go_enter Tryz.func34, Tryz.ntmps34
      go_wp2_with (first
        | (rw [← HW1.out])
        | (at_mapUpdate; refine wpList_mapUpdate_own _ rfl _ _ _ 59 rfl 3 65 law3 Tryz.underlying59 (unitElem (H := Unit)) mb n _ rfl HM1.out hun _ _ _ rfl rfl HKEY.out uD [] unitElem_mk ?_; intro w3 hown3 hgrow3; have SETA := Lib.hid (SetAt.put hown3); have GA := Lib.hid (World.grownBy.trans HG1.out hgrow3); have QA := Lib.hid (b7_grown Q1.out hgrow3 hgm); obtain ⟨k0, k1, k2, k3, k4, k5, k6⟩ := QA.out.cells; clear hown3 hgrow3))
      clear a0 a1 a2 a3 a4 a5 a6 k0 k1 k2 k3 k4 k5 k6 HM1 HG1 Q1 HKEY
      go_loopw [17] (fun i wr => ∃ k nk : Nat, k ≤ ln ∧ i = .int .i64 k ∧ nk ≤ (n + 1) + E.sizeL (l.take k) ∧ Hid (SetAt wr mb nk ((acc ++ [v.i]) ++ E.usL (l.take k))) ∧ Hid (w.grownBy wr (some mb)) ∧ Hid (B7 wr w.heap.size (.string (str o)) (.int .i64 v.k) (.int .i64 v.i) (.string (str v.s)) (.string (str t)) (.string (str n0)) (.slice A ln c))) (fun i _ => ln - (intOf i).toNat)
      case atStart => exact ⟨0, (n + 1), Nat.zero_le _, rfl, by simp [E.sizeL], Lib.hid (by simpa [E.usL] using SETA.out), GA, QA⟩
      case round =>
        obtain ⟨k, nk, hk, rfl, hnk, HMk, HGk, HQk⟩ := hrel
        by_cases hlt : k < ln
        · have hkl : k < l.length := by rw [← HLN.out]; exact hlt
          obtain ⟨hlc, hcm, hmem⟩ := HSUB.out
          obtain ⟨g, off, hA, hSg, hg, hl⟩ := hmem (by show 0 < l.length; omega)
          subst hA
          obtain ⟨A', c'', ⟨g0, g1, g2, g3, g4, g5, g6⟩, hs⟩ := hl.get k hkl
          have hgn : some g ≠ some mb := by intro e; injection e with e; exact HSB.out g hSg e
          have i0 := (HGk.out.cell_far ⟨g, off + k * 7, none⟩ hg hgn).trans g0
          have i1 := (HGk.out.cell_far ⟨g, off + k * 7 + 1, none⟩ hg hgn).trans g1
          have i2 := (HGk.out.cell_far ⟨g, off + k * 7 + 2, none⟩ hg hgn).trans g2
          have i3 := (HGk.out.cell_far ⟨g, off + k * 7 + 3, none⟩ hg hgn).trans g3
          have i4 := (HGk.out.cell_far ⟨g, off + k * 7 + 4, none⟩ hg hgn).trans g4
          have i5 := (HGk.out.cell_far ⟨g, off + k * 7 + 5, none⟩ hg hgn).trans g5
          have i6 := (HGk.out.cell_far ⟨g, off + k * 7 + 6, none⟩ hg hgn).trans g6
          obtain ⟨Wa, W, hWa, hW, b1, b2, hz, hb1, hb2⟩ := made7 wr (.string (str l[k].op)) (.int .i64 l[k].v.k) (.int .i64 l[k].v.i) (.string (str l[k].v.s)) (.string (str l[k].tb)) (.string (str l[k].nm)) (.slice A' l[k].l.length c'')
          have f1 := b1.free
          have y1 := b2.cells
          obtain ⟨p10, p11, p12, p13, p14, p15, p16⟩ := b1.cells
          obtain ⟨f10, f11, f12, f13, f14, f15, f16⟩ := f1
          obtain ⟨y10, y11, y12, y13, y14, y15, y16⟩ := y1
          have hE : EAt S W l[k] (eVal l[k].op l[k].v l[k].tb l[k].nm (.slice A' l[k].l.length c'')) := ⟨A', c'', rfl, sub_later (sub_grown hs HGk.out HSB.out) hb2⟩
          have hsn := sizeL_next hkl
          have hst := sizeL_take l (k + 1)
          have HGT := Lib.hid (HIH.out l[k] (List.getElem_mem hkl) _ S mb nk _ W hE HSB.out (HMk.out.later hb2) (by omega) (intsL_iff.1 HIN.out l[k] (List.getElem_mem hkl)))
          have HGW := Lib.hid (World.grownBy.trans HGk.out (bel_grown hb2 (some mb)))
          have HQW := Lib.hid (HQk.out.later hb2)
          have HWa := Lib.hid hWa
          have HW := Lib.hid hW
          have HUN := Lib.hid (usL_next hkl)
          have HSN : Hid (nk + l[k].size ≤ (n + 1) + E.sizeL (l.take (k + 1))) := Lib.hid (by omega)
          unfold eVal at HGT
          unfold Gath at HGT
          generalize str l[k].op = bo' at *
          generalize str l[k].tb = bt' at *
          generalize str l[k].nm = bn' at *
          generalize str l[k].v.s = bs' at *
          generalize l[k].v.k = vk' at *
          generalize l[k].v.i = vi' at *
          generalize l[k].l.length = ln' at *
          generalize l[k].us = us' at *
          generalize l[k].size = sz' at *
          clear hWa hW hs hl hE g0 g1 g2 g3 g4 g5 g6 b1 b2 hb1 hb2 hz hmem hlc hcm HMk HGk HQk hsn hst hgn
          go_wp2_with (first | (rw [← HW.out]) | (rw [← HWa.out]))
          refine (HGT.out).mono ?_
          rintro q w3 ⟨rfl, ⟨n3, hn3, HM3⟩, HG3⟩
          have HG3' := Lib.hid (World.grownBy.trans HGW.out HG3.out)
          have HQ3 := Lib.hid (b7_grown HQW.out HG3.out hgm)
          have HM3' := HM3.out
          rw [List.append_assoc, ← HUN.out] at HM3'
          have HM4 := Lib.hid HM3'
          have hfin := HSN.out
          clear HM3 HM3' HG3 HGT HGW HQW HSN HUN y10 y11 y12 y13 y14 y15 y16
          go_wp2_with fail
          go_roundw
          case rel => exact ⟨k + 1, n3, by omega, by go_num, by omega, HM4, HG3', HQ3⟩
          case measure => simp [intOf]; omega
        · obtain rfl : k = ln := by omega
          have hall : l.take k = l := List.take_of_length_le (by rw [HLN.out]; exact Nat.le_refl _)
          rw [hall] at HMk hnk
          clear hall
          go_wp2_with fail
          go_end0
          exact ⟨rfl, ⟨nk, by simp only [E.size]; omega, by have h := HMk.out; rw [List.append_assoc] at h; exact Lib.hid (by rw [E.us, if_pos HO.out]; exact h)⟩, HGk⟩
    · have hb : (o == wAt) = false := by simpa using ho
      rw [hb] at eT
      have HO := Lib.hid ho
      clear hb ho
      have SETA := HM1
      have GA := HG1
      have QA := Q1
      go_enter Tryz.func34, Tryz.ntmps34
      go_wp2_with (rw [← HW1.out])
      clear a0 a1 a2 a3 a4 a5 a6 HM1 HG1 Q1 HKEY
      go_loopw [17] (fun i wr => ∃ k nk : Nat, k ≤ ln ∧ i = .int .i64 k ∧ nk ≤ n + E.sizeL (l.take k) ∧ Hid (SetAt wr mb nk (acc ++ E.usL (l.take k))) ∧ Hid (w.grownBy wr (some mb)) ∧ Hid (B7 wr w.heap.size (.string (str o)) (.int .i64 v.k) (.int .i64 v.i) (.string (str v.s)) (.string (str t)) (.string (str n0)) (.slice A ln c))) (fun i _ => ln - (intOf i).toNat)
      case atStart => exact ⟨0, n, Nat.zero_le _, rfl, by simp [E.sizeL], Lib.hid (by simpa [E.usL] using SETA.out), GA, QA⟩
      case round =>
        obtain ⟨k, nk, hk, rfl, hnk, HMk, HGk, HQk⟩ := hrel
        by_cases hlt : k < ln
        · have hkl : k < l.length := by rw [← HLN.out]; exact hlt
          obtain ⟨hlc, hcm, hmem⟩ := HSUB.out
          obtain ⟨g, off, hA, hSg, hg, hl⟩ := hmem (by show 0 < l.length; omega)
          subst hA
          obtain ⟨A', c'', ⟨g0, g1, g2, g3, g4, g5, g6⟩, hs⟩ := hl.get k hkl
          have hgn : some g ≠ some mb := by intro e; injection e with e; exact HSB.out g hSg e
          have i0 := (HGk.out.cell_far ⟨g, off + k * 7, none⟩ hg hgn).trans g0
          have i1 := (HGk.out.cell_far ⟨g, off + k * 7 + 1, none⟩ hg hgn).trans g1
          have i2 := (HGk.out.cell_far ⟨g, off + k * 7 + 2, none⟩ hg hgn).trans g2
          have i3 := (HGk.out.cell_far ⟨g, off + k * 7 + 3, none⟩ hg hgn).trans g3
          have i4 := (HGk.out.cell_far ⟨g, off + k * 7 + 4, none⟩ hg hgn).trans g4
          have i5 := (HGk.out.cell_far ⟨g, off + k * 7 + 5, none⟩ hg hgn).trans g5
          have i6 := (HGk.out.cell_far ⟨g, off + k * 7 + 6, none⟩ hg hgn).trans g6
          obtain ⟨Wa, W, hWa, hW, b1, b2, hz, hb1, hb2⟩ := made7 wr (.string (str l[k].op)) (.int .i64 l[k].v.k) (.int .i64 l[k].v.i) (.string (str l[k].v.s)) (.string (str l[k].tb)) (.string (str l[k].nm)) (.slice A' l[k].l.length c'')
          have f1 := b1.free
          have y1 := b2.cells
          obtain ⟨p10, p11, p12, p13, p14, p15, p16⟩ := b1.cells
          obtain ⟨f10, f11, f12, f13, f14, f15, f16⟩ := f1
          obtain ⟨y10, y11, y12, y13, y14, y15, y16⟩ := y1
          have hE : EAt S W l[k] (eVal l[k].op l[k].v l[k].tb l[k].nm (.slice A' l[k].l.length c'')) := ⟨A', c'', rfl, sub_later (sub_grown hs HGk.out HSB.out) hb2⟩
          have hsn := sizeL_next hkl
          have hst := sizeL_take l (k + 1)
          have HGT := Lib.hid (HIH.out l[k] (List.getElem_mem hkl) _ S mb nk _ W hE HSB.out (HMk.out.later hb2) (by omega) (intsL_iff.1 HIN.out l[k] (List.getElem_mem hkl)))
          have HGW := Lib.hid (World.grownBy.trans HGk.out (bel_grown hb2 (some mb)))
          have HQW := Lib.hid (HQk.out.later hb2)
          have HWa := Lib.hid hWa
          have HW := Lib.hid hW
          have HUN := Lib.hid (usL_next hkl)
          have HSN : Hid (nk + l[k].size ≤ n + E.sizeL (l.take (k + 1))) := Lib.hid (by omega)
          unfold eVal at HGT
          unfold Gath at HGT
          generalize str l[k].op = bo' at *
          generalize str l[k].tb = bt' at *
          generalize str l[k].nm = bn' at *
          generalize str l[k].v.s = bs' at *
          generalize l[k].v.k = vk' at *
          generalize l[k].v.i = vi' at *
          generalize l[k].l.length = ln' at *
          generalize l[k].us = us' at *
          generalize l[k].size = sz' at *
          clear hWa hW hs hl hE g0 g1 g2 g3 g4 g5 g6 b1 b2 hb1 hb2 hz hmem hlc hcm HMk HGk HQk hsn hst hgn
          go_wp2_with (first | (rw [← HW.out]) | (rw [← HWa.out]))
          refine (HGT.out).mono ?_
          rintro q w3 ⟨rfl, ⟨n3, hn3, HM3⟩, HG3⟩
          have HG3' := Lib.hid (World.grownBy.trans HGW.out HG3.out)
          have HQ3 := Lib.hid (b7_grown HQW.out HG3.out hgm)
          have HM3' := HM3.out
          rw [List.append_assoc, ← HUN.out] at HM3'
          have HM4 := Lib.hid HM3'
          have hfin := HSN.out
          clear HM3 HM3' HG3 HGT HGW HQW HSN HUN y10 y11 y12 y13 y14 y15 y16
          go_wp2_with fail
          go_roundw
          case rel => exact ⟨k + 1, n3, by omega, by go_num, by omega, HM4, HG3', HQ3⟩
          case measure => simp [intOf]; omega
        · obtain rfl : k = ln := by omega
          have hall : l.take k = l := List.take_of_length_le (by rw [HLN.out]; exact Nat.le_refl _)
          rw [hall] at HMk hnk
          clear hall
          go_wp2_with fail
          go_end0
          exact ⟨rfl, ⟨nk, by simp only [E.size]; omega, by have h := HMk.out; exact Lib.hid (by rw [E.us, if_neg HO.out, List.nil_append]; exact h)⟩, HGk⟩
end Go.Proofs.YtcmbdghbicjljaaGreatDoor
namespace Go.Proofs.YtcmbdghbicjljaaGreatDoor
open Go.RowKit Go.Maps Go.Sort Go.Shelf
theorem mem_set {w : World} {mb n : Nat} {l : List Int} (h : SetAt w mb n l) (hl : ∀ i ∈ l, -9223372036854775808 ≤ i ∧ i ≤ 9223372036854775807) (x : Int) : x ∈ intKeys (setOf uD (l.map keyI)) ↔ x ∈ l := by
  obtain ⟨es, hD, hko⟩ := World.ownsMap.keysOf h
  have hk : ∀ k ∈ l.map keyI, WideAt.IsKeyLit k := fun k hk => by
    obtain ⟨i, -, rfl⟩ := List.mem_map.1 hk
    exact trivial
  have hs : ∀ i j : Int, (keyI i).sameKey (keyI j) = true ↔ i = j := fun i j => by simp [keyI, Lit.sameKey]
  have h1 : x ∈ intKeys (setOf uD (l.map keyI)) ↔ Maps.has (setOf uD (l.map keyI)) (keyI x) = true := by
    rw [hD, has_eq, List.any_eq_true]
    unfold intKeys
    simp only [List.mem_map]
    constructor
    · rintro ⟨p, hp, rfl⟩
      obtain ⟨v, hv⟩ := hko p hp
      obtain ⟨y, -, hy, -⟩ := Maps.keyOf_i64 Tryz.underlying3 hv
      refine ⟨p, hp, ?_⟩
      rw [hy]
      exact (hs y y).2 rfl
    · rintro ⟨p, hp, hh⟩
      obtain ⟨v, hv⟩ := hko p hp
      obtain ⟨y, -, hy, -⟩ := Maps.keyOf_i64 Tryz.underlying3 hv
      refine ⟨p, hp, ?_⟩
      rw [hy] at hh ⊢
      exact (hs y x).1 hh
  rw [h1, has_setOf uD (keyI x) (l.map keyI) hk, List.any_eq_true]
  constructor
  · rintro ⟨k, hk, hh⟩
    obtain ⟨i, hi, rfl⟩ := List.mem_map.1 hk
    exact (hs i x).1 hh ▸ hi
  · intro hx
    exact ⟨keyI x, List.mem_map.2 ⟨x, hx, rfl⟩, (hs x x).2 rfl⟩
theorem sortsI (m : Nat) : AnyZI.SortsIn Tryz.prog Tryz.sortedI_ren Fence.wide m :=
  ⟨fun blk off cap ss W hH hblk hsz => callsIn_wide.2 (AnyM.slices_Sort_int Tryz.sortI blk off cap ss W hH hblk hsz),
   fun p cap W => callsIn_wide.2 (AnyM.slices_Sort_int_none Tryz.sortI p cap W)⟩
theorem keys_c (mb : Nat) (W : World) : Calls Tryz.prog 36 #[.map (some mb)] W fun e w' => e = .returned (.func (.func 75) #[] #[.pointer (some ⟨W.heap.size, 0, none⟩)]) ∧ w' = W.alloc (.cells #[.map (some mb)] 59) :=
  (callsIn_wide (n := 5)).1 (AnyZI.keys_in Tryz.keysI Fence.wide 5 trivial rfl (some mb) W)
set_option maxHeartbeats 1000000 in
theorem sorted_c (b nn : Nat) (D0 : DataW Unit) (R : Value → Option (DataW Unit × List MemPlace)) (w : World) (hown : w.ownsMap Tryz.prog 3 R b nn D0) (hmax : Maps.size D0 ≤ maxLen) (hbytes : Maps.size D0 * 8 ≤ 140737488355328) :
    Calls Tryz.prog 35 #[.func (.func 75) #[] #[.pointer (some ⟨w.heap.size, 0, none⟩)]] (w.alloc (.cells #[.map (some b)] 59)) fun e w' => ∃ (v : Value) (ss : List Int), e = .returned v ∧ ss.Perm (intKeys D0) ∧ w'.ownsRow (w.alloc (.cells #[.map (some b)] 59)).heap.size 3 1 v ss.length ((ss.mergeSort (fun x y => decide (x ≤ y))).map encZ) ∧ (v = .slice none 0 0 ↔ ss = []) ∧ Below (w.alloc (.cells #[.map (some b)] 59)).heap.size (w.alloc (.cells #[.map (some b)] 59)) w' := by
  have hbl := hown.lt
  have hseq : SeqGives Fence.wide 2 Tryz.prog 75 #[.pointer (some ⟨w.heap.size, 0, none⟩)] encZ (fun ss => ss.Perm (intKeys D0)) (Maps.size D0) (w.alloc (.cells #[.map (some b)] 59)) :=
    AnyZI.keys_gives (ρ := Tryz.keysI_ren) { Tryz.keysI with } Fence.wide _ trivial rfl (by omega) w.heap.size b nn D0 _ (by simp) (by simp) (by
      obtain ⟨es, clock, hb, Ft, hs, hD⟩ := hown
      exact ⟨es, clock, (Below.heap_alloc _ _ b hbl).trans hb, Ft, hs, hD⟩)
  refine (callsIn_wide (n := 5)).1 ?_
  exact AnyZI.sorted_in Tryz.sortedI Fence.wide 5 trivial trivial trivial trivial rfl (by omega) (sortsI _) (enters_of Tryz.func74 (by kernel_rfl) rfl) 75 #[.pointer (some ⟨w.heap.size, 0, none⟩)] trivial (enters_of Tryz.func75 (by kernel_rfl) rfl) _ _ hmax hbytes _ hseq
def Used (e : E) (w : World) (q : Ending) (w' : World) : Prop := ∃ (v : Value) (ss : List Int), q = .returned v ∧ Hid (∀ i, i ∈ ss ↔ i ∈ e.us) ∧ Hid (w'.ownsRow w.heap.size 3 1 v ss.length (ss.map encZ)) ∧ Hid (Below w.heap.size w w')
theorem us_in (e : E) : e.ints = true → ∀ i ∈ e.us, -9223372036854775808 ≤ i ∧ i ≤ 9223372036854775807 := by
  induction e using E.ind with
  | h o v t n l ih =>
    intro h i hi
    simp only [E.ints, Bool.and_eq_true, decide_eq_true_eq] at h
    simp only [E.us, List.mem_append] at hi
    rcases hi with hi | hi
    · split at hi
      · rw [List.mem_singleton] at hi
        rw [hi]; exact h.1
      · simp at hi
    · obtain ⟨x, hx, hi⟩ := usL_mem.1 hi
      exact ih x hx (intsL_iff.1 h.2 x hx) i hi
set_option maxRecDepth 100000 in
set_option maxHeartbeats 4000000 in
theorem uses_any (e : E) (x : Value) (S : Nat → Prop) (w : World) (hx : EAt S w e x) (hsz : e.size ≤ 100000) (hin : e.ints = true) : Calls Tryz.prog 15 #[x] w (Used e w) := by
  obtain ⟨A, c, rfl, hs⟩ := hx
  obtain ⟨W1, hW1, q1, z1, r1⟩ := box7 w (.string (str e.op)) (.int .i64 e.v.k) (.int .i64 e.v.i) (.string (str e.v.s)) (.string (str e.tb)) (.string (str e.nm)) (.slice A e.l.length c)
  have hmm := @run_makeMap Tryz.prog
  obtain ⟨W2, hW2⟩ : ∃ W2 : World, W2 = W1.alloc (.map #[] 0) := ⟨_, rfl⟩
  have r2 : Below W1.heap.size W1 W2 := by rw [hW2]; exact bel_allocE (Below.refl _ _) _
  have hset : SetAt W2 W1.heap.size 0 [] := by rw [hW2]; exact World.ownsMap_made _ _ _ _
  have HSL : Hid (∀ i, -9223372036854775808 ≤ i ∧ i ≤ 9223372036854775807 ∨ ¬ i ∈ e.us) := Lib.hid fun i => by
    by_cases h : i ∈ e.us
    · exact Or.inl (us_in e hin i h)
    · exact Or.inr h
  have HG := Lib.hid (gather_any e _ (fun b => b < w.heap.size) W1.heap.size 0 [] W2 ⟨A, c, rfl, Sub.keep (S := S) (S' := fun b => b < w.heap.size) (fun k _ hk => ⟨hk, (bthen r1 r2).block k hk⟩) (bthen r1 r2).size _ A c hs⟩ (fun b hb => by omega) hset (by omega) hin)
  unfold Gath at HG
  have q2 := q1.later r2
  obtain ⟨a0, a1, a2, a3, a4, a5, a6⟩ := q2.cells
  have HW1 := Lib.hid hW1
  have HW2 := Lib.hid hW2
  have R2 := Lib.hid (bthen r1 r2)
  have HZ1 : Hid (w.heap.size ≤ W1.heap.size) := Lib.hid r1.size
  unfold Used
  generalize e.us = us at *
  obtain ⟨sz, hsz2⟩ : ∃ sz, sz = e.size := ⟨_, rfl⟩
  rw [← hsz2] at hsz HG
  have HS9 := Lib.hid hsz
  clear hW1 hW2 q1 q2 r1 r2 hset hs z1 hsz hsz2
  unfold eVal at HG ⊢
  go_enter Tryz.func15, Tryz.ntmps15
  go_wp2_with (first | (rw [← HW2.out]) | (rw [← HW1.out]))
  refine (HG.out).mono ?_
  rintro q w3 ⟨rfl, ⟨n3, hn3, HM3⟩, HG3⟩
  rw [List.nil_append] at HM3
  have HB3 : Hid (Below w.heap.size w w3) := Lib.hid (R2.out.grown HG3.out R2.out.size (fun k hk => by injection hk with hk; subst hk; exact HZ1.out))
  have HMEM := Lib.hid (mem_set HM3.out (fun i hi => (HSL.out i).resolve_right (fun h => h hi)))
  have hsize := World.ownsMap.size_le HM3.out
  have HKC := Lib.hid (keys_c W1.heap.size w3)
  have HSC := Lib.hid (sorted_c W1.heap.size n3 _ _ w3 HM3.out (by unfold maxLen; have := HS9.out; omega) (by have := HS9.out; omega))
  clear hsize HG3 HG a0 a1 a2 a3 a4 a5 a6
  generalize W1.heap.size = mb at *
  generalize intKeys (setOf uD (us.map keyI)) = ks at *
  go_wp2_with fail
  refine (HKC.out).mono ?_
  rintro q w4 ⟨rfl, rfl⟩
  go_wp2_with fail
  refine (HSC.out).mono ?_
  rintro q w5 ⟨v, ss, rfl, hp, hrow, -, hb⟩
  have hperm := (List.mergeSort_perm ss (fun x y => decide (x ≤ y))).trans hp
  have hlen : (ss.mergeSort (fun x y => decide (x ≤ y))).length = ss.length := (List.mergeSort_perm ss _).length_eq
  rw [← hlen] at hrow
  have HROW := Lib.hid (World.ownsRow.mono hrow (show w.heap.size ≤ _ by have := HB3.out.size; simp; omega))
  have HIN2 : Hid (∀ i, i ∈ ss.mergeSort (fun x y => decide (x ≤ y)) ↔ i ∈ us) := Lib.hid fun i => (hperm.mem_iff).trans (HMEM.out i)
  have HB5 := Lib.hid (bthen HB3.out (bthen (bel_allocE (Below.refl _ _) _) hb))
  generalize ss.mergeSort (fun x y => decide (x ≤ y)) = sr at *
  clear hrow hb hp hperm hlen
  go_wp2_with fail
  go_ret
  exact ⟨_, sr, rfl, HIN2, HROW, HB5⟩
end Go.Proofs.YtcmbdghbicjljaaGreatDoor
namespace Go.Proofs.YtcmbdghbicjljaaGreatDoor
open Go.RowKit
open Go.Proofs.YtcmbdghbicjljaaGreatDoor.SC (HV VBox zero_box Args)
def mixP (us : List Int) (xs ys : List BV.V) (k : Nat) : List BV.V := xs.mapIdx fun i v => if i < k ∧ ¬ ((i : Int) ∈ us) then (ys[i]?).getD v else v
theorem mix_len (us : List Int) (xs ys : List BV.V) (k : Nat) : (mixP us xs ys k).length = xs.length := by simp [mixP]
theorem mix_zero (us : List Int) (xs ys : List BV.V) : mixP us xs ys 0 = xs := by
  apply List.ext_getElem
  · simp [mixP]
  · intro i h1 h2
    simp [mixP]
theorem mix_stay {us : List Int} {xs ys : List BV.V} {k : Nat} (h : (k : Int) ∈ us ∨ ys.length ≤ k) : mixP us xs ys (k + 1) = mixP us xs ys k := by
  apply List.ext_getElem
  · simp [mixP]
  · intro i h1 h2
    simp only [mixP, List.getElem_mapIdx]
    by_cases hik : i = k
    · subst hik
      rw [if_neg (show ¬ (i < i ∧ ¬ (i : Int) ∈ us) by omega)]
      rcases h with h | h
      · rw [if_neg (fun hh => hh.2 h)]
      · split
        · rw [List.getElem?_eq_none h]; rfl
        · rfl
    · have e : (i < k + 1 ∧ ¬ (i : Int) ∈ us) ↔ (i < k ∧ ¬ (i : Int) ∈ us) := by
        constructor
        · rintro ⟨h1, h2⟩; exact ⟨by omega, h2⟩
        · rintro ⟨h1, h2⟩; exact ⟨by omega, h2⟩
      simp only [e]
theorem mix_set {us : List Int} {xs ys : List BV.V} {k : Nat} (hy : k < ys.length) (hu : ¬ (k : Int) ∈ us) : mixP us xs ys (k + 1) = (mixP us xs ys k).set k ys[k] := by
  apply List.ext_getElem
  · simp [mixP]
  · intro i h1 h2
    rw [List.getElem_set]
    simp only [mixP, List.getElem_mapIdx]
    by_cases hik : k = i
    · subst hik
      rw [if_pos rfl, if_pos ⟨by omega, hu⟩, List.getElem?_eq_getElem hy]
      rfl
    · rw [if_neg hik]
      have e : (i < k + 1 ∧ ¬ (i : Int) ∈ us) ↔ (i < k ∧ ¬ (i : Int) ∈ us) := by
        constructor
        · rintro ⟨h1, h2⟩; exact ⟨by omega, h2⟩
        · rintro ⟨h1, h2⟩; exact ⟨by omega, h2⟩
      simp only [e]
theorem mix_at {us : List Int} {xs ys : List BV.V} {k : Nat} {i : Int} (h : i ∈ us) : atP (mixP us xs ys k) i = atP xs i := by
  unfold atP
  rw [mix_len]
  split
  · rename_i hi
    congr 1
    have hlt : i.toNat < xs.length := by omega
    rw [List.getD_eq_getElem?_getD, List.getD_eq_getElem?_getD, List.getElem?_eq_getElem hlt, List.getElem?_eq_getElem (by rw [mix_len]; exact hlt)]
    simp only [mixP, List.getElem_mapIdx, Option.getD_some]
    rw [if_neg]
    rintro ⟨-, hn⟩
    exact hn (by rw [Int.toNat_of_nonneg hi.1]; exact h)
  · rfl
theorem mix_mem {us : List Int} {xs ys : List BV.V} {k : Nat} {v : BV.V} (h : v ∈ mixP us xs ys k) : v ∈ xs ∨ v ∈ ys := by
  obtain ⟨i, hi, rfl⟩ := List.getElem_of_mem h
  have hx : i < xs.length := by rw [mix_len] at hi; exact hi
  simp only [mixP, List.getElem_mapIdx]
  split
  · cases hq : ys[i]? with
    | none => exact Or.inl (List.getElem_mem hx)
    | some u => exact Or.inr (List.mem_of_getElem? hq)
  · exact Or.inl (List.getElem_mem hx)
structure Usable (e : E) (xs ys : List BV.V) : Prop where
  size : e.size ≤ 100000
  rfit : e.fit deedP xs
  mfit : e.fit deedP (mixP e.us xs ys xs.length)
  mev : e.ev deedP (mixP e.us xs ys xs.length) = e.ev deedP xs
  ints : e.ints = true
theorem use_facts {e : E} {xs ys : List BV.V} (hk : okE e = true) (_hc : chkW xs.length e = 0) (hin : e.ints = true) (hx : ∀ v ∈ xs, (-9223372036854775808 ≤ v.i ∧ v.i ≤ 9223372036854775807) ∧ v.s.size ≤ 100000) (hy : ∀ v ∈ ys, (-9223372036854775808 ≤ v.i ∧ v.i ≤ 9223372036854775807) ∧ v.s.size ≤ 100000) : Usable e xs ys := by
  obtain ⟨h1, h2⟩ := ok_size hk
  have hlt := light_lt e h2
  have fx := ev_fit deeds_small hx e (by omega) hin hlt
  have fm := ev_fit deeds_small (r := mixP e.us xs ys xs.length) (fun v hv => by rcases mix_mem hv with h | h; exact hx v h; exact hy v h) e (by omega) hin hlt
  exact ⟨by omega, fx.1, fm.1, us_ev deedP xs _ e fun i hi => mix_at hi, hin⟩
theorem OwnV.cellsAt {w : World} {B g n c : Nat} {xs : List BV.V} (h : OwnV w B (.slice (some ⟨g, 0, none⟩) n c) xs) {k : Nat} (hk : k < xs.length) : BV.CellsAt w g (k * 3) xs[k] := by
  have hn : n = xs.length := by
    rcases h.2 with ⟨hv, -⟩ | ⟨_, _, _, hv, -⟩
    · cases hv
    · injection hv
  subst hn
  have hf : ∀ t (ht : t < 3), w.cell? ⟨g, k * 3 + t, none⟩ = (BV.flat xs)[k * 3 + t]? := fun t ht => World.ownsRow.cellAt h (k * 3 + t) (by omega)
  have h0 := hf 0 (by omega)
  have h1 := hf 1 (by omega)
  have h2 := hf 2 (by omega)
  rw [BV.flat_get xs k 0 hk (by omega)] at h0
  rw [BV.flat_get xs k 1 hk (by omega)] at h1
  rw [BV.flat_get xs k 2 hk (by omega)] at h2
  exact ⟨h0, h1, h2⟩
theorem OwnV.free {w : World} {B g n c : Nat} {xs : List BV.V} (h : OwnV w B (.slice (some ⟨g, 0, none⟩) n c) xs) (o : Nat) : w.frozen? ⟨g, o, none⟩ = false := by
  have hn : n = xs.length := by
    rcases h.2 with ⟨hv, -⟩ | ⟨_, _, _, hv, -⟩
    · cases hv
    · injection hv
  subst hn
  exact World.ownsRow.frozenAt h o
theorem OwnV.put {w : World} {B g n c : Nat} {xs : List BV.V} (h : OwnV w B (.slice (some ⟨g, 0, none⟩) n c) xs) (k : Nat) (v : BV.V) (hk : k < xs.length) : OwnV (((w.setCell ⟨g, k * 3, none⟩ (.int .i64 v.k)).setCell ⟨g, k * 3 + 1, none⟩ (.int .i64 v.i)).setCell ⟨g, k * 3 + 2, none⟩ (.string v.s)) B (.slice (some ⟨g, 0, none⟩) n c) (xs.set k v) := by
  have hn : n = xs.length := by
    rcases h.2 with ⟨hv, -⟩ | ⟨_, _, _, hv, -⟩
    · cases hv
    · injection hv
  subst hn
  have h1 := (World.ownsRow.stored h (k * 3) (.int .i64 v.k)).1
  have h2 := (World.ownsRow.stored h1 (k * 3 + 1) (.int .i64 v.i)).1
  have h3 := (World.ownsRow.stored h2 (k * 3 + 2) (.string v.s)).1
  unfold OwnV
  rw [List.length_set, LG.flat_set xs k v hk]
  exact h3
theorem any_mem {ss us : List Int} (h : ∀ i, i ∈ ss ↔ i ∈ us) (k : Int) : (ss.any fun x => x == k) = decide (k ∈ us) := by
  rw [Bool.eq_iff_iff, List.any_eq_true, decide_eq_true_eq]
  constructor
  · rintro ⟨x, hx, hh⟩
    have : x = k := by simpa using hh
    exact this ▸ (h x).1 hx
  · intro hk
    exact ⟨k, (h k).2 hk, by simp⟩
theorem any_next {ss : List Int} {j : Nat} (hj : j < ss.length) (k : Int) : ((ss.take (j + 1)).any fun x => x == k) = ((ss.take j).any (fun x => x == k) || ss[j] == k) := by
  rw [List.take_add_one, List.getElem?_eq_getElem hj, List.any_append]
  simp
set_option maxRecDepth 100000 in
set_option maxHeartbeats 16000000 in
theorem uses_law (e : E) (S : Nat → Prop) (A1 : Option Addr) (c1 : Nat) (xs : List BV.V) (A : Option Addr) (c : Nat) (ys : List BV.V) (B : Option Addr) (d : Nat) (w : World) (hs : Sub S w e A1 c1) (hr : BV.RowAt w w.heap.size A xs) (hq : BV.RowAt w w.heap.size B ys) (hE : SC.Env w) (hl : xs.length ≤ 140737488355328) (ht : ∀ x ∈ xs, x.s.size ≤ 140737488355328) (hxi : ∀ x ∈ xs, -9223372036854775808 ≤ x.i ∧ x.i ≤ 9223372036854775807) (hl' : ys.length ≤ 140737488355328) (ht' : ∀ x ∈ ys, x.s.size ≤ 140737488355328) (hyi : ∀ x ∈ ys, -9223372036854775808 ≤ x.i ∧ x.i ≤ 9223372036854775807) (hin : e.ints = true) :
    Calls Tryz.prog 4 #[eVal e.op e.v e.tb e.nm (.slice A1 e.l.length c1), .slice A xs.length c, .slice B ys.length d] w fun q w' => q = .returned (.bool true) ∧ Below w.heap.size w w' := by
  obtain ⟨W1, hW1, q1, z1, r1⟩ := box7 w (.string (str e.op)) (.int .i64 e.v.k) (.int .i64 e.v.i) (.string (str e.v.s)) (.string (str e.tb)) (.string (str e.nm)) (.slice A1 e.l.length c1)
  obtain ⟨a0, a1, a2, a3, a4, a5, a6⟩ := q1.cells
  have HW1 := Lib.hid hW1
  have Q1 := Lib.hid q1
  have HB := Lib.hid r1
  have hs1 := sub_later hs r1
  have SE := Lib.hid hs1
  have R1 := Lib.hid (hr.later r1)
  have Y1 := Lib.hid (hq.later r1)
  have E1 := Lib.hid (hE.later r1)
  have HBIG : Hid (∀ W, Below W1.heap.size W1 W → Calls Tryz.prog 8 #[.slice A xs.length c, .slice (some ⟨W.heap.size, 0, none⟩) 1 1] (W.alloc (.cells #[.string (str e.op), .int .i64 e.v.k, .int .i64 e.v.i, .string (str e.v.s), .string (str e.tb), .string (str e.nm), .slice A1 e.l.length c1] 26)) fun q w' => q = .returned (.bool (!(okE e && BV.few [⟨A, c, xs⟩] 600))) ∧ Below W.heap.size W w') := Lib.hid fun W hb => by
    have h := big_any xs A c [e] v0 (some ⟨W.heap.size, 0, none⟩) 1 _ _ ((hr.later (bthen r1 hb)).later (bel_allocE (Below.refl _ _) _)) hl ht (one_sub e A1 c1 (sub_later hs1 hb) [] v0 [] [])
    simp only [List.all_cons, List.all_nil, Bool.and_true] at h
    exact h.mono fun q w' ⟨h1, h2⟩ => ⟨h1, bthen (bel_allocE (Below.refl _ _) _) h2⟩
  have HBIG2 : Hid (∀ W, Below W1.heap.size W1 W → Calls Tryz.prog 8 #[.slice B ys.length d, .slice none 0 0] W fun q w' => q = .returned (.bool (!(BV.few [⟨B, d, ys⟩] 600))) ∧ Below W.heap.size W w') := Lib.hid fun W hb => bigN_any ys B d W (hq.later (bthen r1 hb)) hl' ht'
  have HROW : Hid (∀ W, Below W1.heap.size W1 W → Calls Tryz.prog 14 #[.slice B ys.length d] W fun q w' => q = .returned (.int .i64 (BV.chkR ys)) ∧ Below W.heap.size W w') := Lib.hid fun W hb => BV.rcheckRow_any ys B d W (hq.later (bthen r1 hb)) (by omega)
  have HWID : Hid (okE e = true → xs.length ≤ 600 → ∀ W, Below W1.heap.size W1 W → Calls Tryz.prog 9 #[.slice A xs.length c, .slice (some ⟨W.heap.size, 0, none⟩) 1 1] (W.alloc (.cells #[.string (str e.op), .int .i64 e.v.k, .int .i64 e.v.i, .string (str e.v.s), .string (str e.tb), .string (str e.nm), .slice A1 e.l.length c1] 26)) fun q w' => q = .returned (.bool (chkW xs.length e == 0 && BV.chkR xs == 0)) ∧ Below W.heap.size W w') := Lib.hid fun hok hx6 W hb => by
    obtain ⟨k1, k2⟩ := ok_size hok
    have h := wide_any xs A c [e] v0 (some ⟨W.heap.size, 0, none⟩) 1 _ _ ((hr.later (bthen r1 hb)).later (bel_allocE (Below.refl _ _) _)) (by omega) (fun x hx => by rw [List.mem_singleton.1 hx]; exact ⟨by omega, k2⟩) (one_sub e A1 c1 (sub_later hs1 hb) [] v0 [] [])
    simp only [List.all_cons, List.all_nil, Bool.and_true] at h
    exact h.mono fun q w' ⟨h1, h2⟩ => ⟨h1, bthen (bel_allocE (Below.refl _ _) _) h2⟩
  have HFA : Hid (okE e = true → BV.few [⟨A, c, xs⟩] 600 = true → BV.few [⟨B, d, ys⟩] 600 = true → chkW xs.length e = 0 → Usable e xs ys) := Lib.hid fun hok hf hf' hc => by
    obtain ⟨k1, k2⟩ := few_rowE hf
    obtain ⟨k1', k2'⟩ := few_rowE hf'
    exact use_facts hok hc hin (fun v hv => ⟨hxi v hv, by have := k2 v hv; omega⟩) (fun v hv => ⟨hyi v hv, by have := k2' v hv; omega⟩)
  have HXL : Hid (BV.few [⟨A, c, xs⟩] 600 = true → xs.length ≤ 600) := Lib.hid fun hf => (few_rowE hf).1
  have HYL : Hid (BV.few [⟨B, d, ys⟩] 600 = true → ys.length ≤ 600) := Lib.hid fun hf => (few_rowE hf).1
  clear hW1 q1 z1 r1 hs hs1 hr hq hE hl ht hxi hl' ht' hyi hin
  unfold eVal
  go_enter Tryz.func4, Tryz.ntmps4
  go_wp2_with (rw [← HW1.out])
  refine (live_any _ E1.out).mono ?_
  rintro r w2 ⟨rfl, b2⟩
  have B2 := Lib.hid b2
  obtain ⟨x0, x1, x2, x3, x4, x5, x6⟩ := (Q1.out.later b2).cells
  clear b2 a0 a1 a2 a3 a4 a5 a6
  go_wp2_with fail
  refine (HBIG.out w2 B2.out).mono ?_
  rintro r w3 ⟨rfl, b3⟩
  have B3 := Lib.hid (bthen B2.out b3)
  clear b3 x0 x1 x2 x3 x4 x5 x6 HBIG
  by_cases hok : (okE e && BV.few [⟨A, c, xs⟩] 600) = true
  · rw [hok]
    have hok1 : okE e = true := by
      rw [Bool.and_eq_true] at hok
      exact hok.1
    have hok2 : BV.few [⟨A, c, xs⟩] 600 = true := by
      rw [Bool.and_eq_true] at hok
      exact hok.2
    have hx6 := HXL.out hok2
    have HX6 := Lib.hid hx6
    have HWD := Lib.hid (HWID.out hok1 hx6)
    have HFB := Lib.hid (HFA.out hok1 hok2)
    clear hok hok1 hok2 HWID HFA HXL hx6
    go_wp2_with fail
    refine (HBIG2.out w3 B3.out).mono ?_
    rintro r w4 ⟨rfl, b4⟩
    have B4 := Lib.hid (bthen B3.out b4)
    clear b4 HBIG2
    by_cases hy : BV.few [⟨B, d, ys⟩] 600 = true
    · rw [hy]
      have HY6 := Lib.hid (HYL.out hy)
      have HFB2 := Lib.hid (fun hc => HFB.out hy hc)
      have HWD4 := Lib.hid (HWD.out w4 B4.out)
      obtain ⟨x0, x1, x2, x3, x4, x5, x6⟩ := (Q1.out.later B4.out).cells
      clear hy HYL HWD HFB
      go_wp2_with fail
      refine (HWD4.out).mono ?_
      rintro r w5 ⟨rfl, b5⟩
      have B5 := Lib.hid (bthen B4.out b5)
      clear b5 x0 x1 x2 x3 x4 x5 x6 HWD4
      by_cases hwd : (chkW xs.length e == 0 && BV.chkR xs == 0) = true
      · rw [hwd]
        have hck : chkW xs.length e = 0 := by
          rw [Bool.and_eq_true] at hwd
          simpa using hwd.1
        have HFC := Lib.hid (HFB2.out hck)
        clear hwd hck HFB2
        go_wp2_with fail
        refine (HROW.out w5 B5.out).mono ?_
        rintro r w6 ⟨rfl, b6⟩
        have B6 := Lib.hid (bthen B5.out b6)
        clear b6 HROW
        by_cases hrw : BV.chkR ys = 0
        · rw [hrw]
          clear hrw
          obtain ⟨fsz, frf, fmf, fmev, fin⟩ := HFC.out
          obtain ⟨an, han⟩ : ∃ an, e.ev deedP xs = an := ⟨_, rfl⟩
          rw [han] at fmev
          obtain ⟨n, hn⟩ : ∃ n, n = xs.length := ⟨_, rfl⟩
          obtain ⟨m, hm⟩ : ∃ m, m = ys.length := ⟨_, rfl⟩
          have hn6 : n ≤ 600 := by rw [hn]; exact HX6.out
          have hx6 := HX6.out
          have CU : Hid (∀ W, Below W1.heap.size W1 W → Calls Tryz.prog 15 #[.agg #[.string (str e.op), .int .i64 e.v.k, .int .i64 e.v.i, .string (str e.v.s), .string (str e.tb), .string (str e.nm), .slice A1 e.l.length c1]] W (Used e W)) := Lib.hid fun W hb => uses_any e _ S W ⟨_, _, rfl, sub_later SE.out hb⟩ fsz fin
          have CE : Hid (∀ W, Below W1.heap.size W1 W → Calls Tryz.prog 11 #[.agg #[.string (str e.op), .int .i64 e.v.k, .int .i64 e.v.i, .string (str e.v.s), .string (str e.tb), .string (str e.nm), .slice A1 e.l.length c1], .slice A n c] W fun q w' => q = .returned (vA an) ∧ Below W.heap.size W w') := Lib.hid fun W hb => by
            have h := evalE_any xs (by omega) e _ S W A c ⟨_, _, rfl, sub_later SE.out hb⟩ (R1.out.later hb) (E1.out.later hb) frf
            rw [han] at h
            rw [hn]
            exact h
          have CE2 : Hid (∀ W A2 c2, BV.RowAt W W.heap.size A2 (mixP e.us xs ys n) → Below W1.heap.size W1 W → Calls Tryz.prog 11 #[.agg #[.string (str e.op), .int .i64 e.v.k, .int .i64 e.v.i, .string (str e.v.s), .string (str e.tb), .string (str e.nm), .slice A1 e.l.length c1], .slice A2 n c2] W fun q w' => q = .returned (vA an) ∧ Below W.heap.size W w') := Lib.hid fun W A2 c2 hrw hb => by
            rw [hn] at hrw
            have h := evalE_any (mixP e.us xs ys xs.length) (by rw [mix_len]; omega) e _ S W A2 c2 ⟨_, _, rfl, sub_later SE.out hb⟩ hrw (E1.out.later hb) fmf
            rw [fmev, mix_len] at h
            rw [hn]
            exact h
          have hnil := OwnV.nil w6 w6.heap.size
          obtain ⟨tv, w7, hrun, ho7, hg7, -⟩ := ownV_app 28 28 Tryz.underlying28 hnil xs A c (R1.out.later B6.out) (by simp; omega) (Nat.le_refl _)
          rw [List.nil_append] at ho7
          have OT7 := Lib.hid ho7
          have HG7 : Hid (Below w6.heap.size w6 w7) := Lib.hid ⟨hg7.os, hg7.tape, hg7.output, hg7.size, fun k hk => hg7.block k hk (by simp [Value.ownBlock])⟩
          have B7' := Lib.hid (bthen B6.out HG7.out)
          rw [← hn] at hrun ⊢
          rw [← hm]
          have HN := Lib.hid hn
          have HM := Lib.hid hm
          have Y7 := Lib.hid (Y1.out.later B7'.out)
          clear hnil ho7 hg7 hn hm han frf fmf fmev fin HFC hx6
          obtain ⟨x0, x1, x2, x3, x4, x5, x6⟩ := (Q1.out.later B7'.out).cells
          go_wp2_with (at_builtin; refine Lib.wpList_append_run_sl _ rfl _ _ 28 rfl _ _ rfl rfl hrun ?_)
          refine (CU.out w7 B7'.out).mono ?_
          rintro q w8 ⟨uv, ss, rfl, HUS, HUR, HB8⟩
          have B8 := Lib.hid (bthen B7'.out HB8.out)
          obtain ⟨uA, uc, huv, hul, HUC⟩ : ∃ uA uc, uv = .slice uA ss.length uc ∧ ss.length ≤ 9223372036854775807 ∧ Hid (0 < ss.length → ∃ gu, uA = some ⟨gu, 0, none⟩ ∧ w7.heap.size ≤ gu ∧ gu < w8.heap.size ∧ ∀ j (hj : j < ss.length), w8.cell? ⟨gu, j, none⟩ = some (.int .i64 ss[j])) := by
            rcases HUR.out.2 with ⟨hv, h0⟩ | ⟨g, cap, cur, hv, hbg, hgg, hnc, hcm, hrest⟩
            · exact ⟨none, 0, by rw [hv, h0], by omega, Lib.hid fun h => by omega⟩
            · refine ⟨_, cap, hv, by unfold maxLen at hcm; omega, Lib.hid fun _ => ⟨g, rfl, hbg, (Array.getElem?_eq_some_iff.1 hgg).1, fun j hj => ?_⟩⟩
              have hr := HUR.out
              rw [hv] at hr
              rw [World.ownsRow.cellAt hr j (by omega), List.getElem?_map, List.getElem?_eq_getElem hj]
              rfl
          subst huv
          obtain ⟨tA, tc, htv, htc⟩ := OT7.out.shape
          subst htv
          rw [← HN.out] at OT7 ⊢
          obtain ⟨u, hu⟩ : ∃ u, u = ss.length := ⟨_, rfl⟩
          rw [← hu] at hul ⊢
          have HU := Lib.hid hu
          have HANY := Lib.hid (any_mem HUS.out)
          have OT8 : Hid (OwnV w8 w6.heap.size (.slice tA n tc) (mixP e.us xs ys 0)) := Lib.hid (by rw [mix_zero]; exact OT7.out.later HB8.out)
          have HTB : Hid (∀ tb, tA = some ⟨tb, 0, none⟩ → w6.heap.size ≤ tb ∧ tb < w7.heap.size) := Lib.hid fun tb h => OwnV.block OT7.out (by rw [h]; rfl)
          have HGR := Lib.hid (World.grownBy.refl w8 (Value.slice tA n tc).ownBlock)
          have HS6 : Hid (w6.heap.size ≤ w8.heap.size ∧ w7.heap.size ≤ w8.heap.size ∧ W1.heap.size ≤ w6.heap.size) := Lib.hid ⟨by have h1 := HG7.out.size; have h2 := HB8.out.size; omega, HB8.out.size, B6.out.size⟩
          have HBF : Hid (∀ W, w8.grownBy W (Value.slice tA n tc).ownBlock → Below W1.heap.size W1 W) := Lib.hid fun W hg => B8.out.grown hg B8.out.size (fun k hk => by
            cases tA with
            | none => cases hk
            | some a =>
              have h1 := OwnV.block OT7.out (k := a.block) rfl
              have h2 : a.block = k := by injection hk
              have := HS6.out
              omega)
          clear x0 x1 x2 x3 x4 x5 x6 hu hrun OT7 CU htc HUR HG7 HB8 HUS
          go_wp2_with fail
          go_loopw [46] (fun i wr => ∃ k : Nat, k ≤ n ∧ i = .int .i64 k ∧ Hid (OwnV wr w6.heap.size (.slice tA n tc) (mixP e.us xs ys k)) ∧ Hid (w8.grownBy wr (Value.slice tA n tc).ownBlock)) (fun i _ => n - (intOf i).toNat)
          case atStart => exact ⟨0, Nat.zero_le _, rfl, OT8, HGR⟩
          case round =>
            obtain ⟨k, hk, rfl, HO, HG⟩ := hrel
            by_cases hlt : k < n
            · have hlx : k < (mixP e.us xs ys k).length := by rw [mix_len, ← HN.out]; exact hlt
              obtain ⟨tb, htb⟩ : ∃ tb, tA = some ⟨tb, 0, none⟩ := by
                rcases HO.out.2 with ⟨hv, h0⟩ | ⟨g, cap, cur, hv, _⟩
                · omega
                · injection hv with hv; exact ⟨g, hv⟩
              subst htb
              have htbb := HTB.out tb rfl
              have hne : ∀ g, g ≠ tb → some g ≠ (Value.slice (some ⟨tb, 0, none⟩) n tc).ownBlock := fun g h e => by injection e with e; exact h e
              go_wp2_with fail
              obtain ⟨wo, rfl⟩ : ∃ wo : World, wo = wr := ⟨_, rfl⟩
              go_loopw [51, 11] (fun i uv wr => ∃ (j : Nat), j ≤ u ∧ i = .int .i64 j ∧ uv = .bool ((ss.take j).any fun x => x == (k : Int)) ∧ wr = wo) (fun i _ _ => u - (intOf i).toNat)
              case atStart => exact ⟨0, Nat.zero_le _, rfl, by simp, rfl⟩
              case round =>
                obtain ⟨j, hj, rfl, rfl, rfl⟩ := hrel
                by_cases hltj : j < u
                · have hjs : j < ss.length := by rw [← HU.out]; exact hltj
                  obtain ⟨gu, hgu, hg1, hg2, hgc⟩ := HUC.out (by omega)
                  have hcu := hgc j (by exact hjs)
                  have e1 := (HG.out.cell_far ⟨gu, j, none⟩ hg2 (hne gu (by omega))).trans hcu
                  have HNX := Lib.hid (any_next hjs (k : Int))
                  subst hgu
                  generalize ss[j] = sj at *
                  clear hcu hgc
                  generalize ((ss.take j).any fun x => x == (k : Int)) = ub at *
                  cases ub
                  · have h := HNX.out
                    rw [Bool.false_or] at h
                    have HNY := Lib.hid h
                    clear h HNX
                    go_wp2_with fail
                    go_roundw
                    case rel => exact ⟨j + 1, by omega, by go_num, by rw [HNY.out], trivial⟩
                    case measure => simp [intOf]; omega
                  · have h := HNX.out
                    rw [Bool.true_or] at h
                    have HNY := Lib.hid h
                    clear h HNX
                    go_wp2_with fail
                    go_roundw
                    case rel => exact ⟨j + 1, by omega, by go_num, by rw [HNY.out], trivial⟩
                    case measure => simp [intOf]; omega
                · obtain rfl : j = u := by omega
                  have hall : ss.take j = ss := List.take_of_length_le (by rw [HU.out]; exact Nat.le_refl _)
                  rw [hall, HANY.out]
                  clear hall
                  by_cases hmu : (k : Int) ∈ e.us
                  · have hst := mix_stay (us := e.us) (xs := xs) (ys := ys) (k := k) (Or.inl hmu)
                    have HO' : Hid (OwnV wr w6.heap.size (.slice (some ⟨tb, 0, none⟩) n tc) (mixP e.us xs ys (k + 1))) := Lib.hid (by rw [hst]; exact HO.out)
                    rw [decide_eq_true hmu]
                    clear hst hmu
                    go_wp2_with fail
                    go_roundw
                    case rel => exact ⟨k + 1, by omega, by go_num, HO', HG⟩
                    case measure => simp [intOf]; omega
                  · rw [decide_eq_false hmu]
                    by_cases hky : k < m
                    · have hky' : k < ys.length := by rw [← HM.out]; exact hky
                      have hst := mix_set (us := e.us) (xs := xs) hky' hmu
                      obtain ⟨by0, oy, hyA, hyl, hyc⟩ := Y1.out (by omega)
                      have hyne : by0 ≠ tb := by have := HS6.out; omega
                      obtain ⟨cy0, cy1, cy2⟩ := hyc k hky'
                      have hbf := HBF.out _ HG.out
                      have d0 := (hbf.cell (p := ⟨by0, _, none⟩) hyl).trans cy0
                      have d1 := (hbf.cell (p := ⟨by0, _, none⟩) hyl).trans cy1
                      have d2 := (hbf.cell (p := ⟨by0, _, none⟩) hyl).trans cy2
                      obtain ⟨m0, m1, m2⟩ := OwnV.cellsAt HO.out hlx
                      have f0 := OwnV.free HO.out (k * 3)
                      have f1 := OwnV.free HO.out (k * 3 + 1)
                      have f2 := OwnV.free HO.out (k * 3 + 2)
                      have HO' := Lib.hid (OwnV.put HO.out k ys[k] hlx)
                      rw [← hst] at HO'
                      have HG' : Hid (w8.grownBy (((wr.setCell ⟨tb, k * 3, none⟩ (.int .i64 ys[k].k)).setCell ⟨tb, k * 3 + 1, none⟩ (.int .i64 ys[k].i)).setCell ⟨tb, k * 3 + 2, none⟩ (.string ys[k].s)) (Value.slice (some ⟨tb, 0, none⟩) n tc).ownBlock) := by
                        have g3 := fun (W : World) (o : Nat) (u : Value) => (show W.grownBy (W.setCell ⟨tb, o, none⟩ u) (some tb) from ⟨rfl, rfl, rfl, by simp, fun q hq hn => Below.heap_setCell _ _ _ _ (fun e => hn (by rw [e]))⟩)
                        exact Lib.hid (World.grownBy.trans (World.grownBy.trans (World.grownBy.trans HG.out (g3 _ _ _)) (g3 _ _ _)) (g3 _ _ _))
                      subst hyA
                      have hkm : (k : Int) < (m : Int) := by omega
                      generalize ys[k] = yk at *
                      generalize (mixP e.us xs ys k)[k] = mk0 at *
                      clear hst hmu cy0 cy1 cy2 hyc hbf
                      go_wp2_with fail
                      go_roundw
                      case rel => exact ⟨k + 1, by omega, by go_num, HO', HG'⟩
                      case measure => simp [intOf]; omega
                    · have hkm : ¬ ((k : Int) < (m : Int)) := by omega
                      have hst := mix_stay (us := e.us) (xs := xs) (ys := ys) (k := k) (Or.inr (by rw [← HM.out]; omega))
                      have HO' : Hid (OwnV wr w6.heap.size (.slice (some ⟨tb, 0, none⟩) n tc) (mixP e.us xs ys (k + 1))) := Lib.hid (by rw [hst]; exact HO.out)
                      clear hst hmu
                      go_wp2_with fail
                      go_roundw
                      case rel => exact ⟨k + 1, by omega, by go_num, HO', HG⟩
                      case measure => simp [intOf]; omega
            · obtain rfl : k = n := by omega
              have B9 := Lib.hid (HBF.out wr HG.out)
              obtain ⟨A9, c9, hv9, -, -, hrow9⟩ := HO.out.row
              rw [mix_len, ← HN.out] at hv9
              injection hv9 with hv9a hv9b hv9c
              subst hv9a
              have HR9 := Lib.hid hrow9
              obtain ⟨x0, x1, x2, x3, x4, x5, x6⟩ := (Q1.out.later B9.out).cells
              obtain ⟨er, uk, ui, us'⟩ := an
              unfold vA at CE CE2
              dsimp only at CE CE2
              clear hrow9 HO HG HTB HUC HGR OT8 HANY
              go_wp2_with fail
              refine (CE.out wr B9.out).mono ?_
              rintro q wa ⟨rfl, ba⟩
              obtain ⟨Wb, hWb⟩ : ∃ Wb : World, Wb = wa.alloc (.cells #[.int .i64 uk, .int .i64 ui, .string us'] 23) := ⟨_, rfl⟩
              have hbb : Below wa.heap.size wa Wb := by rw [hWb]; exact bel_allocE (Below.refl _ _) _
              have VB := Lib.hid (show VBox Wb wa.heap.size ⟨uk, ui, us'⟩ by rw [hWb]; exact vnewE wa uk ui us')
              have BB := Lib.hid (bthen B9.out (bthen ba hbb))
              have HRb := Lib.hid (HR9.out.later (bthen ba hbb))
              have HWb := Lib.hid hWb
              clear ba hbb hWb x0 x1 x2 x3 x4 x5 x6 HR9
              obtain ⟨x0, x1, x2, x3, x4, x5, x6⟩ := (Q1.out.later BB.out).cells
              go_wp2_with (rw [← HWb.out])
              refine (CE2.out Wb _ _ HRb.out BB.out).mono ?_
              rintro q wc ⟨rfl, bc⟩
              obtain ⟨Wd, hWd⟩ : ∃ Wd : World, Wd = wc.alloc (.cells #[.int .i64 uk, .int .i64 ui, .string us'] 23) := ⟨_, rfl⟩
              have hbd : Below wc.heap.size wc Wd := by rw [hWd]; exact bel_allocE (Below.refl _ _) _
              have VD := (show VBox Wd wc.heap.size ⟨uk, ui, us'⟩ by rw [hWd]; exact vnewE wc uk ui us')
              have VC := VB.out.later (bthen bc hbd)
              have BD := Lib.hid (bthen BB.out (bthen bc hbd))
              have HWd := Lib.hid hWd
              obtain ⟨y0, y1, y2⟩ := VD.cells
              obtain ⟨z0, z1, z2⟩ := VC.cells
              clear bc hbd hWd x0 x1 x2 x3 x4 x5 x6 VD VC
              go_wp2_with (rw [← HWd.out])
              exact bodyPost_ret (v := .bool true) (by simp [results, Tryz.results4, go_sem]) rfl ⟨rfl, bthen HB.out BD.out⟩
        · have hrw' : (BV.chkR ys != 0) = true := by simpa using hrw
          clear hrw HFC
          (go_wp2_with fail; exact bodyPost_ret (v := .bool true) (by simp [results, Tryz.results4, go_sem]) rfl ⟨rfl, bthen HB.out B6.out⟩)
      · have hwd' : (chkW xs.length e == 0 && BV.chkR xs == 0) = false := by simpa using hwd
        rw [hwd']
        clear hwd hwd' HFB2
        (go_wp2_with fail; exact bodyPost_ret (v := .bool true) (by simp [results, Tryz.results4, go_sem]) rfl ⟨rfl, bthen HB.out B5.out⟩)
    · have hy' : BV.few [⟨B, d, ys⟩] 600 = false := by simpa using hy
      rw [hy']
      clear hy hy' HFB HWD
      (go_wp2_with fail; exact bodyPost_ret (v := .bool true) (by simp [results, Tryz.results4, go_sem]) rfl ⟨rfl, bthen HB.out B4.out⟩)
  · have hok' : (okE e && BV.few [⟨A, c, xs⟩] 600) = false := by simpa using hok
    rw [hok']
    clear hok hok' HWID HFA
    (go_wp2_with fail; exact bodyPost_ret (v := .bool true) (by simp [results, Tryz.results4, go_sem]) rfl ⟨rfl, bthen HB.out B3.out⟩)
theorem uses_lawE (e : E) (x : Value) (S : Nat → Prop) (xs : List BV.V) (A : Option Addr) (c : Nat) (ys : List BV.V) (B : Option Addr) (d : Nat) (w : World) (hx : EAt S w e x) (hr : BV.RowAt w w.heap.size A xs) (hq : BV.RowAt w w.heap.size B ys) (hE : SC.Env w) (hl : xs.length ≤ 140737488355328) (ht : ∀ x ∈ xs, x.s.size ≤ 140737488355328) (hxi : ∀ x ∈ xs, -9223372036854775808 ≤ x.i ∧ x.i ≤ 9223372036854775807) (hl' : ys.length ≤ 140737488355328) (ht' : ∀ x ∈ ys, x.s.size ≤ 140737488355328) (hyi : ∀ x ∈ ys, -9223372036854775808 ≤ x.i ∧ x.i ≤ 9223372036854775807) (hin : e.ints = true) :
    Calls Tryz.prog 4 #[x, .slice A xs.length c, .slice B ys.length d] w fun q w' => q = .returned (.bool true) ∧ Below w.heap.size w w' := by
  obtain ⟨A1, c1, rfl, hs⟩ := hx
  exact uses_law e S A1 c1 xs A c ys B d w hs hr hq hE hl ht hxi hl' ht' hyi hin
end Go.Proofs.YtcmbdghbicjljaaGreatDoor
