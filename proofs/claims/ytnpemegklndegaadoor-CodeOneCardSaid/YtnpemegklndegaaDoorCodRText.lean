/- Contract of the reference's text: a text out of a key's bytes, and how many they are; 0, if there is none. Condition: no more than a million bytes. -/
import Derived.Test.YtnpemegklndegaaDoorCodROne
namespace Go.Proofs.YtnpemegklndegaaDoor
open Go.RowKit
def textOf (l : List UInt8) : List UInt8 × Nat := (unesc l).getD ([], 0)
def HalfK (l : List UInt8) (k : Nat) (acc : List UInt8) : Prop := unesc l = (unesc (l.drop k)).map fun p => (acc ++ p.1, p.2 + k)
theorem HalfK.start (l : List UInt8) : HalfK l 0 [] := by unfold HalfK; rw [List.drop_zero]; cases unesc l <;> simp
theorem drop_two {l : List UInt8} {k : Nat} (h : k + 1 < l.length) : l.drop k = l[k] :: l[k + 1] :: l.drop (k + 2) := by
  rw [List.drop_eq_getElem_cons (show k < l.length by omega), List.drop_eq_getElem_cons h]
theorem HalfK.one {l : List UInt8} {k : Nat} {acc : List UInt8} (h : HalfK l k acc) (hk : k < l.length) (h0 : l[k] ≠ 0) : HalfK l (k + 1) (acc ++ [l[k]]) := by
  unfold HalfK at h ⊢
  rw [h, List.drop_eq_getElem_cons hk]
  conv => lhs; unfold unesc
  rw [if_neg h0]
  cases unesc (l.drop (k + 1)) <;> simp; omega
theorem HalfK.two {l : List UInt8} {k : Nat} {acc : List UInt8} (h : HalfK l k acc) (hk : k + 1 < l.length) (h0 : l[k] = 0) (h1 : l[k + 1] = 255) : HalfK l (k + 2) (acc ++ [0]) := by
  unfold HalfK at h ⊢
  rw [h, drop_two hk, h0, h1]
  simp only [unesc, show ¬ ((255 : UInt8) = 0) by decide, if_true, if_false]
  cases unesc (l.drop (k + 2)) <;> simp; omega
theorem HalfK.done {l : List UInt8} {k : Nat} {acc : List UInt8} (h : HalfK l k acc) (hk : k + 1 < l.length) (h0 : l[k] = 0) (h1 : l[k + 1] = 0) : textOf l = (acc, k + 2) := by
  unfold HalfK at h
  unfold textOf
  rw [h, drop_two hk, h0, h1]
  simp [unesc]
  omega
theorem HalfK.bad {l : List UInt8} {k : Nat} {acc : List UInt8} (h : HalfK l k acc) (hk : k + 1 < l.length) (h0 : l[k] = 0) (h1 : l[k + 1] ≠ 0) (h2 : l[k + 1] ≠ 255) : textOf l = ([], 0) := by
  unfold HalfK at h
  unfold textOf
  rw [h, drop_two hk, h0]
  simp [unesc, h1, h2]
theorem HalfK.non {l : List UInt8} {k : Nat} {acc : List UInt8} (h : HalfK l k acc) (hk : ¬ k + 1 < l.length) : textOf l = ([], 0) := by
  unfold HalfK at h
  unfold textOf
  rw [h]
  have hl : (l.drop k).length ≤ 1 := by rw [List.length_drop]; omega
  match hd : l.drop k, hl with
  | [], _ => rfl
  | [c], _ => by_cases hc : c = 0 <;> simp [unesc, hc]
  | _ :: _ :: _, h => simp at h
def GaveX (w : World) (p : List UInt8 × Nat) (e : Ending) (w' : World) : Prop := e = .returned (.tuple #[.string ⟨p.1.toArray⟩, .int .i64 (p.2 : Nat)]) ∧ Below w.heap.size w w'
set_option maxRecDepth 100000 in
set_option maxHeartbeats 2000000 in
theorem rtext_any (l : List UInt8) (A : Option Addr) (c : Nat) (w : World) (hy : BytesAt w w.heap.size A l) (hm : l.length ≤ 1000000) :
    Calls Tryd.prog 34 #[.slice A l.length c] w (GaveX w (textOf l)) := by
  have HY := Lib.hid hy
  have H0 := Lib.hid (Wrote.refl (Own.nil w w.heap.size))
  obtain ⟨n, hn⟩ : ∃ n, n = l.length := ⟨_, rfl⟩
  have HN := Lib.hid hn
  rw [← hn] at hm ⊢
  clear hy hn
  go_enter Tryd.func34, Tryd.ntmps34
  go_wp2_with fail
  go_loopw [4, 5] (fun ov i wr => ∃ (k : Nat) (acc : List UInt8), k ≤ n ∧ acc.length ≤ k ∧ i = .int .i64 k ∧ Hid (HalfK l k acc) ∧ Hid (Wrote w w.heap.size (.slice none 0 0) ov acc wr)) (fun _ i _ => n - (intOf i).toNat)
  case atStart => exact ⟨0, [], Nat.zero_le _, Nat.le_refl _, rfl, HalfK.start l, H0.out⟩
  case round =>
    obtain ⟨k, acc, hk, hacc, rfl, HH, HW⟩ := hrel
    have HB := Lib.hid HW.out.belowNil
    by_cases hlt : k + 1 < n
    · have hkl : k + 1 < l.length := by rw [← HN.out]; exact hlt
      have hlti : (k : Int) + 1 < (n : Int) := by omega
      have hltj : (k : Int) < (n : Int) := by omega
      obtain ⟨b, off, rfl, hbl, hcl⟩ := HY.out (by omega)
      have cx := (HB.out.cell (p := ⟨b, off + k, none⟩) hbl).trans (hcl k (by omega))
      have cy := (HB.out.cell (p := ⟨b, off + (k + 1), none⟩) hbl).trans (hcl (k + 1) hkl)
      have p0 : (0 : Int) ≤ (k : Int) + 1 := by omega
      have p1 : ((k : Int) + 1).toNat = k + 1 := by omega
      have HX1 : Hid (l[k] ≠ 0 → HalfK l (k + 1) (acc ++ [l[k]])) := fun h => HH.out.one (by omega) h
      have HX2 : Hid (l[k] = 0 → l[k + 1] = 255 → HalfK l (k + 2) (acc ++ [0])) := fun h h' => HH.out.two hkl h h'
      have HX3 : Hid (l[k] = 0 → l[k + 1] = 0 → textOf l = (acc, k + 2)) := fun h h' => HH.out.done hkl h h'
      have HX4 : Hid (l[k] = 0 → l[k + 1] ≠ 0 → l[k + 1] ≠ 255 → textOf l = ([], 0)) := fun h h' h'' => HH.out.bad hkl h h' h''
      have hxu := l[k].toNat_lt
      have hyu := l[k + 1].toNat_lt
      clear hcl
      generalize l[k] = x at *
      generalize l[k + 1] = y at *
      by_cases hx0 : x = 0
      · subst hx0
        simp only [show ((0 : UInt8).toNat : Int) = 0 from rfl] at cx
        by_cases hy0 : y = 0
        · subst hy0
          simp only [show ((0 : UInt8).toNat : Int) = 0 from rfl] at cy
          have HD := Lib.hid (HX3.out rfl rfl)
          obtain ⟨A2, c2, rfl, -, -, hyw⟩ := HW.out.own.bytes
          have hcv := conv_at (c := c2) hyw
          have w2 : IntKind.i64.wrap ((k : Int) + 2) = (k : Int) + 2 := IntWalk.i64_in _ (by omega)
          clear HX1 HX2 HX3 HX4 hyw
          generalize acc.length = al at *
          go_wp2_with fail
          exact bodyPost_ret (v := .tuple #[.string ⟨acc.toArray⟩, .int .i64 ((k : Int) + 2)]) (by simp [results, Tryd.results34, go_sem]) rfl ⟨by rw [HD.out]; rfl, HB.out⟩
        · by_cases hy1 : y = 255
          · subst hy1
            simp only [show ((255 : UInt8).toNat : Int) = 255 from rfl] at cy
            have HD := Lib.hid (HX2.out rfl rfl)
            obtain ⟨v2, w2, hr2, hW2⟩ := HW.out.one 0 (by omega) (Nat.le_refl _)
            have HW2 := Lib.hid hW2
            simp only [show ((0 : UInt8).toNat : Int) = 0 from rfl] at hr2
            clear HX1 HX2 HX3 HX4 hy0 hW2
            go_wp2_with (at_builtin; refine Lib.wpList_append_run_sl _ rfl _ _ 26 rfl _ _ rfl rfl hr2 ?_)
            go_roundw
            case rel => exact ⟨k + 2, acc ++ [0], by omega, by simp; omega, by go_num, HD.out, HW2.out⟩
            case measure => simp [intOf]; omega
          · have HD := Lib.hid (HX4.out rfl hy0 hy1)
            have e0 : ((y.toNat : Int) == 0) = false := by
              rw [beq_eq_false_iff_ne]
              intro h
              exact hy0 (UInt8.toNat_inj.1 (by show y.toNat = 0; omega))
            have e1 : ((y.toNat : Int) != 255) = true := by
              rw [bne_iff_ne]
              intro h
              exact hy1 (UInt8.toNat_inj.1 (by show y.toNat = 255; omega))
            clear HX1 HX2 HX3 HX4 hy0 hy1
            generalize (y.toNat : Int) = yn at *
            go_wp2_with fail
            exact bodyPost_ret (v := .tuple #[.string ⟨#[]⟩, .int .i64 0]) (by simp [results, Tryd.results34, go_sem]) rfl ⟨by rw [HD.out]; rfl, HB.out⟩
      · have HD := Lib.hid (HX1.out hx0)
        have e0 : ((x.toNat : Int) != 0) = true := by
          rw [bne_iff_ne]
          intro h
          exact hx0 (UInt8.toNat_inj.1 (by show x.toNat = 0; omega))
        obtain ⟨v2, w2, hr2, hW2⟩ := HW.out.one x (by omega) (Nat.le_refl _)
        have HW2 := Lib.hid hW2
        clear HX1 HX2 HX3 HX4 hx0 hW2
        generalize hxn : (x.toNat : Int) = xn at *
        go_wp2_with (at_builtin; refine Lib.wpList_append_run_sl _ rfl _ _ 26 rfl _ _ rfl rfl hr2 ?_)
        go_roundw
        case rel => exact ⟨k + 1, acc ++ [x], by omega, by simp; omega, by go_num, HD.out, HW2.out⟩
        case measure => simp [intOf]; omega
    · have HD := Lib.hid (HH.out.non (by rw [← HN.out]; exact hlt))
      have hlti : ¬ ((k : Int) + 1 < (n : Int)) := by omega
      go_wp2_with fail
      exact bodyPost_ret (v := .tuple #[.string ⟨#[]⟩, .int .i64 0]) (by simp [results, Tryd.results34, go_sem]) rfl ⟨by rw [HD.out]; rfl, HB.out⟩
end Go.Proofs.YtnpemegklndegaaDoor
