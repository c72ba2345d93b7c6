import Derived.Test.YtkigddankkoahaaGreatDoorQ02
import Derived.Test.YtkigddankkoahaaGreatDoorQ03
import Derived.Test.YtkigddankkoahaaGreatDoorQ12
import Derived.Deep.Cut
import Derived.Deep.Quiet
import Derived.Lib.ReplaceLaws
import Derived.Deep.RegionWith
set_option maxRecDepth 100000
set_option maxHeartbeats 4000000
namespace Go.Proofs.YtkigddankkoahaaGreatDoor.BV
end Go.Proofs.YtkigddankkoahaaGreatDoor.BV
namespace Go.Proofs.YtkigddankkoahaaGreatDoor.SC
open Go.Proofs.YtkigddankkoahaaGreatDoor.BV
open Go.RowKit
def joE (a b : V) : Int := if allOk [a, b] = false then 1 else if okK [24, 24, 0] [a, b] = false then 20 else if nulB [a, b] = true ∨ a.k = b.k then 0 else 20
def joV (a b : V) : V := if joE a b = 0 ∧ nulB [a, b] = false then ⟨a.k, 0, a.s ++ b.s⟩ else zV
theorem jo_bad {a b : V} (h : allOk [a, b] = false) : joE a b = 1 ∧ joV a b = zV := by
 have h1 : joE a b = 1 := by unfold joE; rw [if_pos h]
 exact ⟨h1, by unfold joV; rw [h1]; rfl⟩
theorem jo_kind {a b : V} (h : allOk [a, b] = true) (hs : okK [24, 24, 0] [a, b] = false) : joE a b = 20 ∧ joV a b = zV := by
 have h1 : joE a b = 20 := by unfold joE; rw [if_neg (by simp [h]), if_pos hs]
 exact ⟨h1, by unfold joV; rw [h1]; rfl⟩
theorem jo_null {a b : V} (h : allOk [a, b] = true) (hs : okK [24, 24, 0] [a, b] = true) (hn : nulB [a, b] = true) : joE a b = 0 ∧ joV a b = zV := by
 have h1 : joE a b = 0 := by unfold joE; rw [if_neg (by simp [h]), if_neg (by simp [hs]), if_pos (Or.inl hn)]
 exact ⟨h1, by unfold joV; rw [hn]; simp⟩
theorem jo_two {a b : V} (h : allOk [a, b] = true) (hs : okK [24, 24, 0] [a, b] = true) (hn : nulB [a, b] = false) (hk : ¬ a.k = b.k) : joE a b = 20 ∧ joV a b = zV := by
 have h1 : joE a b = 20 := by unfold joE; rw [if_neg (by simp [h]), if_neg (by simp [hs]), if_neg (by simp [hn, hk])]
 exact ⟨h1, by unfold joV; rw [h1]; rfl⟩
theorem jo_one {a b : V} (h : allOk [a, b] = true) (hs : okK [24, 24, 0] [a, b] = true) (hn : nulB [a, b] = false) (hk : a.k = b.k) : joE a b = 0 ∧ joV a b = ⟨a.k, 0, a.s ++ b.s⟩ := by
 have h1 : joE a b = 0 := by unfold joE; rw [if_neg (by simp [h]), if_neg (by simp [hs]), if_pos (Or.inr hk)]
 exact ⟨h1, by unfold joV; rw [h1, hn]; simp⟩
theorem two_boxes (w : World) (a b : V) : HV w [(w.heap.size + 2, zV), (w.heap.size + 1, b), (w.heap.size, a)] (((w.alloc (.cells #[.int .i64 a.k, .int .i64 a.i, .string a.s] 26)).alloc (.cells #[.int .i64 b.k, .int .i64 b.i, .string b.s] 26)).alloc (.cells #[.int .i64 0, .int .i64 0, .string ⟨#[]⟩] 26)) :=
 (((HV.nil w).push a).pushAt (by simp) b).pushAt (by simp) zV
theorem join_any (a b : V) (w : World) (ha : a.s.size ≤ 140737488355328) (hb : b.s.size ≤ 140737488355328) :
  Calls Tryz.prog 102 #[.agg #[.int .i64 a.k, .int .i64 a.i, .string a.s], .agg #[.int .i64 b.k, .int .i64 b.i, .string b.s]] w fun e w' => e = .returned (.tuple #[.agg #[.int .i64 (joV a b).k, .int .i64 (joV a b).i, .string (joV a b).s], .int .i64 (joE a b)]) ∧ Below w.heap.size w w' := by
 have HB := Lib.hid (two_boxes w a b)
 have HW := Lib.hid (fun W H hH => wrong2_any a b W H hH)
 cases hok : allOk [a, b]
 ·rw [(jo_bad hok).1, (jo_bad hok).2]
  rw [hok] at HW
  clear hok ha hb
  go_enter Tryz.func102, Tryz.ntmps102
  go_wp2_with fail
  refine (HW.out _ _ (by simp)).mono ?_
  rintro e w1 ⟨rfl, hb1, hs1⟩
  have H1 := Lib.hid (HB.out.call (bele hb1 (by simp)))
  obtain ⟨g0, g1, g2⟩ := H1.out.box.cells
  obtain ⟨f0, f1, f2⟩ := H1.out.box.free
  simp only [zV] at g0 g1 g2
  go_wp2_with fail
  exact bodyPost_ret (v := .tuple #[.agg #[.int .i64 0, .int .i64 0, .string ⟨#[]⟩], .int .i64 1]) (by simp [results, Tryz.results102, go_sem, g0, g1, g2]) rfl ⟨rfl, Below.set3 H1.out.below (by omega) _ _ _⟩
 ·rw [hok] at HW
  have HS := Lib.hid (fun W H hH => strict2_any 24 24 0 a b W H hH (Or.inr (Or.inr rfl)) (Or.inr (Or.inr rfl)) hok)
  cases hk : okK [24, 24, 0] [a, b]
  ·rw [(jo_kind hok hk).1, (jo_kind hok hk).2]
   unfold stN stE at HS
   rw [hk] at HS
   clear hok hk ha hb
   go_enter Tryz.func102, Tryz.ntmps102
   go_wp2_with fail
   refine (HW.out _ _ (by simp)).mono ?_
   rintro e w1 ⟨rfl, hb1, hs1⟩
   have H1 := Lib.hid (HB.out.call (bele hb1 (by simp)))
   obtain ⟨c0, c1, c2⟩ := H1.out.tail.box.cells
   obtain ⟨d0, d1, d2⟩ := H1.out.tail.tail.box.cells
   go_wp2_with fail
   refine (HS.out _ _ rfl).mono ?_
   rintro e w2 ⟨rfl, hb2, hs2⟩
   have H2 := Lib.hid (H1.out.call hb2)
   obtain ⟨g0, g1, g2⟩ := H2.out.box.cells
   obtain ⟨f0, f1, f2⟩ := H2.out.box.free
   simp only [zV] at g0 g1 g2
   go_wp2_with fail
   exact bodyPost_ret (v := .tuple #[.agg #[.int .i64 0, .int .i64 0, .string ⟨#[]⟩], .int .i64 20]) (by simp [results, Tryz.results102, go_sem, g0, g1, g2]) rfl ⟨rfl, Below.set3 H2.out.below (by omega) _ _ _⟩
  ·unfold stN stE at HS
   rw [hk] at HS
   cases hn : nulB [a, b]
   ·rw [hn] at HS
    by_cases hkk : a.k = b.k
    ·rw [(jo_one hok hk hn hkk).1, (jo_one hok hk hn hkk).2]
     have hkk' : (b.k != b.k) = false := by simp
     obtain ⟨ak, ai, sa⟩ := a
     simp only at *
     subst hkk
     clear hok hk hn
     go_enter Tryz.func102, Tryz.ntmps102
     go_wp2_with fail
     refine (HW.out _ _ (by simp)).mono ?_
     rintro e w1 ⟨rfl, hb1, hs1⟩
     have H1 := Lib.hid (HB.out.call (bele hb1 (by simp)))
     obtain ⟨c0, c1, c2⟩ := H1.out.tail.box.cells
     obtain ⟨d0, d1, d2⟩ := H1.out.tail.tail.box.cells
     go_wp2_with fail
     refine (HS.out _ _ rfl).mono ?_
     rintro e w2 ⟨rfl, hb2, hs2⟩
     have H2 := Lib.hid (H1.out.call hb2)
     clear c0 c1 c2 d0 d1 d2
     obtain ⟨c0, c1, c2⟩ := H2.out.tail.box.cells
     obtain ⟨d0, d1, d2⟩ := H2.out.tail.tail.box.cells
     obtain ⟨g0, g1, g2⟩ := H2.out.box.cells
     obtain ⟨f0, f1, f2⟩ := H2.out.box.free
     simp only [zV] at g0 g1 g2
     go_wp2_with fail
     exact bodyPost_ret (v := .tuple #[.agg #[.int .i64 b.k, .int .i64 0, .string (sa ++ b.s)], .int .i64 0]) (by simp [results, Tryz.results102, go_sem, g0, g1, g2]) rfl ⟨rfl, Below.set3 H2.out.below (by omega) _ _ _⟩
    ·rw [(jo_two hok hk hn hkk).1, (jo_two hok hk hn hkk).2]
     have hkk' : (a.k != b.k) = true := by simpa using hkk
     clear hok hk hn hkk ha hb
     go_enter Tryz.func102, Tryz.ntmps102
     go_wp2_with fail
     refine (HW.out _ _ (by simp)).mono ?_
     rintro e w1 ⟨rfl, hb1, hs1⟩
     have H1 := Lib.hid (HB.out.call (bele hb1 (by simp)))
     obtain ⟨c0, c1, c2⟩ := H1.out.tail.box.cells
     obtain ⟨d0, d1, d2⟩ := H1.out.tail.tail.box.cells
     go_wp2_with fail
     refine (HS.out _ _ rfl).mono ?_
     rintro e w2 ⟨rfl, hb2, hs2⟩
     have H2 := Lib.hid (H1.out.call hb2)
     clear c0 c1 c2 d0 d1 d2
     obtain ⟨c0, c1, c2⟩ := H2.out.tail.box.cells
     obtain ⟨d0, d1, d2⟩ := H2.out.tail.tail.box.cells
     obtain ⟨g0, g1, g2⟩ := H2.out.box.cells
     obtain ⟨f0, f1, f2⟩ := H2.out.box.free
     simp only [zV] at g0 g1 g2
     go_wp2_with fail
     exact bodyPost_ret (v := .tuple #[.agg #[.int .i64 0, .int .i64 0, .string ⟨#[]⟩], .int .i64 20]) (by simp [results, Tryz.results102, go_sem, g0, g1, g2]) rfl ⟨rfl, Below.set3 H2.out.below (by omega) _ _ _⟩
   ·rw [(jo_null hok hk hn).1, (jo_null hok hk hn).2]
    rw [hn] at HS
    clear hok hk hn ha hb
    go_enter Tryz.func102, Tryz.ntmps102
    go_wp2_with fail
    refine (HW.out _ _ (by simp)).mono ?_
    rintro e w1 ⟨rfl, hb1, hs1⟩
    have H1 := Lib.hid (HB.out.call (bele hb1 (by simp)))
    obtain ⟨c0, c1, c2⟩ := H1.out.tail.box.cells
    obtain ⟨d0, d1, d2⟩ := H1.out.tail.tail.box.cells
    go_wp2_with fail
    refine (HS.out _ _ rfl).mono ?_
    rintro e w2 ⟨rfl, hb2, hs2⟩
    have H2 := Lib.hid (H1.out.call hb2)
    obtain ⟨g0, g1, g2⟩ := H2.out.box.cells
    obtain ⟨f0, f1, f2⟩ := H2.out.box.free
    simp only [zV] at g0 g1 g2
    clear c0 c1 c2 d0 d1 d2
    go_wp2_with fail
    exact bodyPost_ret (v := .tuple #[.agg #[.int .i64 0, .int .i64 0, .string ⟨#[]⟩], .int .i64 0]) (by simp [results, Tryz.results102, go_sem, g0, g1, g2]) rfl ⟨rfl, Below.set3 H2.out.below (by omega) _ _ _⟩
end Go.Proofs.YtkigddankkoahaaGreatDoor.SC
namespace Go.Proofs.YtkigddankkoahaaGreatDoor.BV
end Go.Proofs.YtkigddankkoahaaGreatDoor.BV
namespace Go.Proofs.YtkigddankkoahaaGreatDoor.SC
open Go.Proofs.YtkigddankkoahaaGreatDoor.BV
open Go.RowKit
def sV (s : ByteArray) : V := ⟨3, 0, s⟩
end Go.Proofs.YtkigddankkoahaaGreatDoor.SC
namespace Go.Proofs.YtkigddankkoahaaGreatDoor.BV
end Go.Proofs.YtkigddankkoahaaGreatDoor.BV
namespace Go.Proofs.YtkigddankkoahaaGreatDoor.SC
open Go.Proofs.YtkigddankkoahaaGreatDoor.BV
open Go.RowKit
def trimS (s : ByteArray) : ByteArray := ⟨(Lib.trimB s.data.toList 32).toArray⟩
theorem trim_lib (s : ByteArray) (w : World) (hs : s.size ≤ 100000000) : Calls Tryz.prog 195 #[.string s, .string ⟨#[32]⟩] w fun e w' => e = .returned (.string (trimS s)) ∧ Below w.heap.size w w' := by
 refine (Tryz.strings_Trim_one s 32 (by decide) w (by omega)).mono ?_
 rintro e w' ⟨he, hw⟩
 refine ⟨he, ?_⟩
 rcases hw with rfl | rfl
 ·exact Below.refl _ _
 ·exact (Below.refl _ _).drew
theorem lower_do (s : ByteArray) (H : Nat) (w : World) (h : Args w H [sV s]) (hs : s.size ≤ 100000000) : Calls Tryz.prog 175 #[.slice (some ⟨H, 0, none⟩) 1 1] w fun e w' => e = .returned (.tuple #[.agg #[.int .i64 3, .int .i64 0, .string (turnedB 65 s)], .int .i64 0]) ∧ Below w.heap.size w w' := by
 have hl := h.lt
 have HZ := Lib.hid (zero_box w)
 have c2 : w.cell? ⟨H, 2, none⟩ = some (.string s) := h.cell 2
 have HT := Lib.hid (fun w => turned65 s w hs)
 clear h hs
 generalize (turnedB 65 s) = r at *
 go_enter Tryz.func175, Tryz.ntmps175
 go_wp2_with fail
 refine (HT.out _).mono ?_
 rintro e w1 ⟨rfl, b1⟩
 have P1 := Lib.hid (HZ.out.call b1)
 clear c2
 go_wp2_with fail
 refine (text_any _ _).mono ?_
 rintro e w2 ⟨rfl, b2⟩
 have P2 := Lib.hid (P1.out.call b2)
 obtain ⟨g0, g1, g2⟩ := P2.out.box.cells
 obtain ⟨f0, f1, f2⟩ := P2.out.box.free
 simp only [zV] at g0 g1 g2
 go_wp2_with fail
 exact bodyPost_ret (v := .tuple #[.agg #[.int .i64 3, .int .i64 0, .string r], .int .i64 0]) (by simp [results, Tryz.results175, go_sem, g0, g1, g2]) rfl ⟨rfl, Below.set3 P2.out.below (Nat.le_refl _) _ _ _⟩
theorem upper_do (s : ByteArray) (H : Nat) (w : World) (h : Args w H [sV s]) (hs : s.size ≤ 100000000) : Calls Tryz.prog 176 #[.slice (some ⟨H, 0, none⟩) 1 1] w fun e w' => e = .returned (.tuple #[.agg #[.int .i64 3, .int .i64 0, .string (turnedB 97 s)], .int .i64 0]) ∧ Below w.heap.size w w' := by
 have hl := h.lt
 have HZ := Lib.hid (zero_box w)
 have c2 : w.cell? ⟨H, 2, none⟩ = some (.string s) := h.cell 2
 have HT := Lib.hid (fun w => turned97 s w hs)
 clear h hs
 generalize (turnedB 97 s) = r at *
 go_enter Tryz.func176, Tryz.ntmps176
 go_wp2_with fail
 refine (HT.out _).mono ?_
 rintro e w1 ⟨rfl, b1⟩
 have P1 := Lib.hid (HZ.out.call b1)
 clear c2
 go_wp2_with fail
 refine (text_any _ _).mono ?_
 rintro e w2 ⟨rfl, b2⟩
 have P2 := Lib.hid (P1.out.call b2)
 obtain ⟨g0, g1, g2⟩ := P2.out.box.cells
 obtain ⟨f0, f1, f2⟩ := P2.out.box.free
 simp only [zV] at g0 g1 g2
 go_wp2_with fail
 exact bodyPost_ret (v := .tuple #[.agg #[.int .i64 3, .int .i64 0, .string r], .int .i64 0]) (by simp [results, Tryz.results176, go_sem, g0, g1, g2]) rfl ⟨rfl, Below.set3 P2.out.below (Nat.le_refl _) _ _ _⟩
theorem trim_do (s : ByteArray) (H : Nat) (w : World) (h : Args w H [sV s]) (hs : s.size ≤ 100000000) : Calls Tryz.prog 177 #[.slice (some ⟨H, 0, none⟩) 1 1] w fun e w' => e = .returned (.tuple #[.agg #[.int .i64 3, .int .i64 0, .string (trimS s)], .int .i64 0]) ∧ Below w.heap.size w w' := by
 have hl := h.lt
 have HZ := Lib.hid (zero_box w)
 have c2 : w.cell? ⟨H, 2, none⟩ = some (.string s) := h.cell 2
 have HT := Lib.hid (fun w => trim_lib s w hs)
 clear h hs
 generalize (trimS s) = r at *
 go_enter Tryz.func177, Tryz.ntmps177
 go_wp2_with fail
 refine (HT.out _).mono ?_
 rintro e w1 ⟨rfl, b1⟩
 have P1 := Lib.hid (HZ.out.call b1)
 clear c2
 go_wp2_with fail
 refine (text_any _ _).mono ?_
 rintro e w2 ⟨rfl, b2⟩
 have P2 := Lib.hid (P1.out.call b2)
 obtain ⟨g0, g1, g2⟩ := P2.out.box.cells
 obtain ⟨f0, f1, f2⟩ := P2.out.box.free
 simp only [zV] at g0 g1 g2
 go_wp2_with fail
 exact bodyPost_ret (v := .tuple #[.agg #[.int .i64 3, .int .i64 0, .string r], .int .i64 0]) (by simp [results, Tryz.results177, go_sem, g0, g1, g2]) rfl ⟨rfl, Below.set3 P2.out.below (Nat.le_refl _) _ _ _⟩
theorem empty_of {t : ByteArray} (h : t.size = 0) : t = ⟨#[]⟩ := by
 cases t
 simp only [ByteArray.mk.injEq]
 exact Array.eq_empty_of_size_eq_zero h
end Go.Proofs.YtkigddankkoahaaGreatDoor.SC
namespace Go.Proofs.YtkigddankkoahaaGreatDoor.BV
end Go.Proofs.YtkigddankkoahaaGreatDoor.BV
namespace Go.Proofs.YtkigddankkoahaaGreatDoor.SC
open Go.Proofs.YtkigddankkoahaaGreatDoor.BV
open Go.RowKit
end Go.Proofs.YtkigddankkoahaaGreatDoor.SC
namespace Go.Proofs.YtkigddankkoahaaGreatDoor.BV
end Go.Proofs.YtkigddankkoahaaGreatDoor.BV
namespace Go.Proofs.YtkigddankkoahaaGreatDoor.SC
open Go.Proofs.YtkigddankkoahaaGreatDoor.BV
open Go.RowKit
end Go.Proofs.YtkigddankkoahaaGreatDoor.SC
namespace Go.Proofs.YtkigddankkoahaaGreatDoor.BV
end Go.Proofs.YtkigddankkoahaaGreatDoor.BV
namespace Go.Proofs.YtkigddankkoahaaGreatDoor.SC
open Go.Proofs.YtkigddankkoahaaGreatDoor.BV
open Go.RowKit
theorem neg_boxes (w : World) (v : V) : HV w [(w.heap.size + 1, zV), (w.heap.size, v)] ((w.alloc (.cells #[.int .i64 v.k, .int .i64 v.i, .string v.s] 26)).alloc (.cells #[.int .i64 0, .int .i64 0, .string ⟨#[]⟩] 26)) :=
 ((HV.nil w).push v).pushAt (by simp) zV
theorem neg_any (v : V) (w : World) (hv : In64 v.i) : Calls Tryz.prog 98 #[.agg #[.int .i64 v.k, .int .i64 v.i, .string v.s]] w fun e w' => e = .returned (.tuple #[.agg #[.int .i64 (arV ⟨#[45]⟩ (nV 0) v).k, .int .i64 (arV ⟨#[45]⟩ (nV 0) v).i, .string (arV ⟨#[45]⟩ (nV 0) v).s], .int .i64 (arE ⟨#[45]⟩ (nV 0) v)]) ∧ Below w.heap.size w w' := by
 have H0 := Lib.hid (neg_boxes w v)
 have HA : Hid (∀ w, Calls Tryz.prog 101 #[.string ⟨#[45]⟩, .agg #[.int .i64 2, .int .i64 0, .string ⟨#[]⟩], .agg #[.int .i64 v.k, .int .i64 v.i, .string v.s]] w fun e w' => e = .returned (.tuple #[.agg #[.int .i64 (arV ⟨#[45]⟩ (nV 0) v).k, .int .i64 (arV ⟨#[45]⟩ (nV 0) v).i, .string (arV ⟨#[45]⟩ (nV 0) v).s], .int .i64 (arE ⟨#[45]⟩ (nV 0) v)]) ∧ Below w.heap.size w w') := fun w => arith_any ⟨#[45]⟩ (nV 0) v w (show In64 0 by unfold In64; omega) hv
 generalize arV ⟨#[45]⟩ (nV 0) v = R at *
 generalize arE ⟨#[45]⟩ (nV 0) v = E at *
 clear hv
 go_enter Tryz.func98, Tryz.ntmps98
 go_wp2_with fail
 generalize (w.alloc (.cells #[.int .i64 v.k, .int .i64 v.i, .string v.s] 26)).alloc (.cells #[.int .i64 0, .int .i64 0, .string ⟨#[]⟩] 26) = W0 at *
 have H1 := Lib.hid H0.out.drew
 obtain ⟨c0, c1, c2⟩ := H1.out.tail.box.cells
 go_region_with (first | (go_at_call 135; refine (number_any _ _).mono ?_; rintro e w5 ⟨rfl, hb5⟩; have H5 := Lib.hid (H1.out.call hb5); obtain ⟨d0, d1, d2⟩ := H5.out.tail.box.cells) | (go_at_call 101; refine (HA.out _).mono ?_; rintro e w6 ⟨rfl, hb6⟩; have H6 := Lib.hid (H5.out.call hb6); obtain ⟨g0, g1, g2⟩ := H6.out.box.cells; obtain ⟨f0, f1, f2⟩ := H6.out.box.free; simp only [zV] at g0 g1 g2))
 all_goals go_wp2_with fail
 all_goals exact bodyPost_ret (v := .tuple #[.agg #[.int .i64 R.k, .int .i64 R.i, .string R.s], .int .i64 E]) (by simp [results, Tryz.results98, go_sem, g0, g1, g2]) rfl ⟨rfl, Below.set3 H6.out.below (by omega) _ _ _⟩
end Go.Proofs.YtkigddankkoahaaGreatDoor.SC
