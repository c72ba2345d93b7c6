import Derived.Test.YtkigddankkoahaaGreatDoorQ20
import Derived.Test.YtkigddankkoahaaGreatDoorQ03
set_option maxRecDepth 100000
set_option maxHeartbeats 4000000
set_option linter.unusedSimpArgs false
set_option linter.unusedVariables false
namespace Go.Proofs.YtkigddankkoahaaGreatDoor
open Go.RowKit
open Go.Proofs.YtkigddankkoahaaGreatDoor.SC (HV VBox zero_box Args FnBox)
theorem callNo (nm : ByteArray) (hx : SC.look nm = none) (xs : List BV.V) (H : Nat) (w : World) :
  Calls Tryz.prog 104 #[.string nm, .slice (some ⟨H, 0, none⟩) xs.length xs.length] w fun e w' => e = .returned (vA (1, zW)) ∧ Below w.heap.size w w' := by
 have HZ := Lib.hid (zero_box w)
 have HF : Hid (∀ w, Calls Tryz.prog 140 #[.string nm] w fun e w' => e = .returned (.tuple #[.agg #[.string ⟨#[]⟩, .int .i64 0, .int .i64 0, .int .u64 0, .int .u64 0, .int .u64 0, .nilFunc], .bool false]) ∧ Below w.heap.size w w') := by
  intro w
  have h := SC.find_any nm w
  rw [hx] at h
  exact h
 unfold vA zW
 generalize xs.length = n at *
 clear hx
 go_enter Tryz.func104, Tryz.ntmps104
 go_wp2_with fail
 refine (HF.out _).mono ?_
 rintro e w1 ⟨rfl, b1⟩
 have P1 := Lib.hid ((HZ.out.call b1).alloc (.cells #[.string ⟨#[]⟩, .int .i64 0, .int .i64 0, .int .u64 0, .int .u64 0, .int .u64 0, .nilFunc] 182))
 clear b1
 obtain ⟨g0, g1, g2⟩ := P1.out.box.cells
 obtain ⟨f0, f1, f2⟩ := P1.out.box.free
 simp only [SC.zV] at g0 g1 g2
 go_wp2_with fail
 exact bodyPost_ret (v := .tuple #[.agg #[.int .i64 0, .int .i64 0, .string ⟨#[]⟩], .int .i64 1]) (by simp [results, Tryz.results104, go_sem, g0, g1, g2]) rfl ⟨rfl, by first | exact set3_new P1.out.below _ _ _ | exact P1.out.below⟩
theorem callBad1 (nm : ByteArray) (x : SC.Fn) (hx : SC.look nm = some x) (xs : List BV.V) (H : Nat) (w : World) (ht : SC.takesB x.lo x.hi xs.length = false) :
  Calls Tryz.prog 104 #[.string nm, .slice (some ⟨H, 0, none⟩) xs.length xs.length] w fun e w' => e = .returned (vA (1, zW)) ∧ Below w.heap.size w w' := by
 have HZ := Lib.hid (zero_box w)
 have HF : Hid (∀ w, Calls Tryz.prog 140 #[.string nm] w fun e w' => e = .returned (.tuple #[.agg #[.string x.nm, .int .i64 x.lo, .int .i64 x.hi, .int .u64 x.k0, .int .u64 x.k1, .int .u64 x.k2, .func (.func x.f) #[] #[]], .bool true]) ∧ Below w.heap.size w w') := by
  intro w
  have h := SC.find_any nm w
  rw [hx] at h
  exact h
 have HT : Hid (∀ w, Calls Tryz.prog 141 #[.agg #[.string x.nm, .int .i64 x.lo, .int .i64 x.hi, .int .u64 x.k0, .int .u64 x.k1, .int .u64 x.k2, .func (.func x.f) #[] #[]], .int .i64 xs.length] w fun e w' => e = .returned (.bool false) ∧ Below w.heap.size w w') := by
  intro w
  have h := SC.takes_any x xs.length w
  rw [ht] at h
  exact h
 unfold vA zW
 generalize xs.length = n at *
 clear hx ht
 go_enter Tryz.func104, Tryz.ntmps104
 go_wp2_with fail
 refine (HF.out _).mono ?_
 rintro e w1 ⟨rfl, b1⟩
 have P1 := Lib.hid ((HZ.out.call b1).alloc (.cells #[.string x.nm, .int .i64 x.lo, .int .i64 x.hi, .int .u64 x.k0, .int .u64 x.k1, .int .u64 x.k2, .func (.func x.f) #[] #[]] 182))
 have B1 := Lib.hid (FnBox.made w1 x)
 clear b1
 go_wp2_with fail
 refine (HT.out _).mono ?_
 rintro e w2 ⟨rfl, b2⟩
 have P2 := Lib.hid (P1.out.call b2)
 have B2 := Lib.hid (B1.out.later b2)
 clear b2
 obtain ⟨g0, g1, g2⟩ := P2.out.box.cells
 obtain ⟨f0, f1, f2⟩ := P2.out.box.free
 simp only [SC.zV] at g0 g1 g2
 go_wp2_with fail
 exact bodyPost_ret (v := .tuple #[.agg #[.int .i64 0, .int .i64 0, .string ⟨#[]⟩], .int .i64 1]) (by simp [results, Tryz.results104, go_sem, g0, g1, g2]) rfl ⟨rfl, by first | exact set3_new P2.out.below _ _ _ | exact P2.out.below⟩
theorem callBad2 (nm : ByteArray) (x : SC.Fn) (hx : SC.look nm = some x) (xs : List BV.V) (H : Nat) (w : World) (hA : Args w H xs) (hm : xs.length ≤ 2000) (ht : SC.takesB x.lo x.hi xs.length = true) (hok : BV.allOk xs = false) :
  Calls Tryz.prog 104 #[.string nm, .slice (some ⟨H, 0, none⟩) xs.length xs.length] w fun e w' => e = .returned (vA (1, zW)) ∧ Below w.heap.size w w' := by
 have HZ := Lib.hid (zero_box w)
 have HF : Hid (∀ w, Calls Tryz.prog 140 #[.string nm] w fun e w' => e = .returned (.tuple #[.agg #[.string x.nm, .int .i64 x.lo, .int .i64 x.hi, .int .u64 x.k0, .int .u64 x.k1, .int .u64 x.k2, .func (.func x.f) #[] #[]], .bool true]) ∧ Below w.heap.size w w') := by
  intro w
  have h := SC.find_any nm w
  rw [hx] at h
  exact h
 have HT : Hid (∀ w, Calls Tryz.prog 141 #[.agg #[.string x.nm, .int .i64 x.lo, .int .i64 x.hi, .int .u64 x.k0, .int .u64 x.k1, .int .u64 x.k2, .func (.func x.f) #[] #[]], .int .i64 xs.length] w fun e w' => e = .returned (.bool true) ∧ Below w.heap.size w w') := by
  intro w
  have h := SC.takes_any x xs.length w
  rw [ht] at h
  exact h
 have HW : Hid (∀ W, Below w.heap.size w W → Calls Tryz.prog 138 #[.slice (some ⟨H, 0, none⟩) xs.length xs.length] W fun e w' => e = .returned (.bool true) ∧ Below W.heap.size W w') := by
  intro W hW
  have h := SC.wrong_any xs _ xs.length W (hA.later hW).row (by omega)
  rw [hok] at h
  exact h
 unfold vA zW
 generalize xs.length = n at *
 clear hx ht hA hok hm
 go_enter Tryz.func104, Tryz.ntmps104
 go_wp2_with fail
 refine (HF.out _).mono ?_
 rintro e w1 ⟨rfl, b1⟩
 have P1 := Lib.hid ((HZ.out.call b1).alloc (.cells #[.string x.nm, .int .i64 x.lo, .int .i64 x.hi, .int .u64 x.k0, .int .u64 x.k1, .int .u64 x.k2, .func (.func x.f) #[] #[]] 182))
 have B1 := Lib.hid (FnBox.made w1 x)
 clear b1
 go_wp2_with fail
 refine (HT.out _).mono ?_
 rintro e w2 ⟨rfl, b2⟩
 have P2 := Lib.hid (P1.out.call b2)
 have B2 := Lib.hid (B1.out.later b2)
 clear b2
 go_wp2_with fail
 refine (HW.out _ P2.out.below).mono ?_
 rintro e w3 ⟨rfl, b3⟩
 have P3 := Lib.hid (P2.out.call b3)
 have B3 := Lib.hid (B2.out.later b3)
 clear b3
 obtain ⟨g0, g1, g2⟩ := P3.out.box.cells
 obtain ⟨f0, f1, f2⟩ := P3.out.box.free
 simp only [SC.zV] at g0 g1 g2
 go_wp2_with fail
 exact bodyPost_ret (v := .tuple #[.agg #[.int .i64 0, .int .i64 0, .string ⟨#[]⟩], .int .i64 1]) (by simp [results, Tryz.results104, go_sem, g0, g1, g2]) rfl ⟨rfl, by first | exact set3_new P3.out.below _ _ _ | exact P3.out.below⟩
theorem callNull (nm : ByteArray) (x : SC.Fn) (hx : SC.look nm = some x) (xs : List BV.V) (H : Nat) (w : World) (hA : Args w H xs) (h3 : xs.length ≤ 3) (ht : SC.takesB x.lo x.hi xs.length = true) (hok : BV.allOk xs = true)
  (hk : ∀ j (h : j < xs.length), SC.KindOk ([x.k0, x.k1, x.k2][j]'(by simp; omega))) (hneq : ∀ w, (binOp .neq 179 (.agg #[.int .u64 x.k0, .int .u64 x.k1, .int .u64 x.k2]) (.agg #[.int .u64 0, .int .u64 0, .int .u64 0])).run Tryz.prog w = .ok (.bool true) w)
  (hs : SC.okK [x.k0, x.k1, x.k2] xs = false ∨ SC.nulB xs = true) :
  Calls Tryz.prog 104 #[.string nm, .slice (some ⟨H, 0, none⟩) xs.length xs.length] w fun e w' => e = .returned (vA (if SC.okK [x.k0, x.k1, x.k2] xs = false then 20 else 0, zW)) ∧ Below w.heap.size w w' := by
 have hm : xs.length ≤ 2000 := by omega
 have HZ := Lib.hid (zero_box w)
 have HF : Hid (∀ w, Calls Tryz.prog 140 #[.string nm] w fun e w' => e = .returned (.tuple #[.agg #[.string x.nm, .int .i64 x.lo, .int .i64 x.hi, .int .u64 x.k0, .int .u64 x.k1, .int .u64 x.k2, .func (.func x.f) #[] #[]], .bool true]) ∧ Below w.heap.size w w') := by
  intro w
  have h := SC.find_any nm w
  rw [hx] at h
  exact h
 have HT : Hid (∀ w, Calls Tryz.prog 141 #[.agg #[.string x.nm, .int .i64 x.lo, .int .i64 x.hi, .int .u64 x.k0, .int .u64 x.k1, .int .u64 x.k2, .func (.func x.f) #[] #[]], .int .i64 xs.length] w fun e w' => e = .returned (.bool true) ∧ Below w.heap.size w w') := by
  intro w
  have h := SC.takes_any x xs.length w
  rw [ht] at h
  exact h
 have HW : Hid (∀ W, Below w.heap.size w W → Calls Tryz.prog 138 #[.slice (some ⟨H, 0, none⟩) xs.length xs.length] W fun e w' => e = .returned (.bool false) ∧ Below W.heap.size W w') := by
  intro W hW
  have h := SC.wrong_any xs _ xs.length W (hA.later hW).row (by omega)
  rw [hok] at h
  exact h
 have HS : Hid (∀ W, Below w.heap.size w W → Calls Tryz.prog 139 #[.agg #[.int .u64 x.k0, .int .u64 x.k1, .int .u64 x.k2], .slice (some ⟨H, 0, none⟩) xs.length xs.length] W fun e w' => e = .returned (.tuple #[.bool (SC.stN [x.k0, x.k1, x.k2] xs), .int .i64 (SC.stE [x.k0, x.k1, x.k2] xs)]) ∧ Below W.heap.size W w') := by
  intro W hW
  exact SC.strict_any x.k0 x.k1 x.k2 xs _ xs.length W (hA.later hW).row h3 hk hok
 unfold vA zW
 have hr : (SC.stN [x.k0, x.k1, x.k2] xs = true ∨ (SC.stN [x.k0, x.k1, x.k2] xs = false ∧ (SC.stE [x.k0, x.k1, x.k2] xs != 0) = true)) ∧ SC.stE [x.k0, x.k1, x.k2] xs = if SC.okK [x.k0, x.k1, x.k2] xs = false then 20 else 0 := by
  unfold SC.stN SC.stE
  rcases hs with h | h
  ·rw [h]; simp
  ·cases hq : SC.okK [x.k0, x.k1, x.k2] xs <;> simp [h]
 obtain ⟨hr1, hr2⟩ := hr
 rw [← hr2]
 generalize SC.stN [x.k0, x.k1, x.k2] xs = sn at *
 generalize SC.stE [x.k0, x.k1, x.k2] xs = se at *
 clear hx ht hA hok hm hk h3 hs hr2
 generalize xs.length = n at *
 rcases hr1 with rfl | ⟨rfl, hse⟩
 all_goals
  go_enter Tryz.func104, Tryz.ntmps104
  go_wp2_with fail
  refine (HF.out _).mono ?_
  rintro e w1 ⟨rfl, b1⟩
  have P1 := Lib.hid ((HZ.out.call b1).alloc (.cells #[.string x.nm, .int .i64 x.lo, .int .i64 x.hi, .int .u64 x.k0, .int .u64 x.k1, .int .u64 x.k2, .func (.func x.f) #[] #[]] 182))
  have B1 := Lib.hid (FnBox.made w1 x)
  clear b1
  go_wp2_with fail
  refine (HT.out _).mono ?_
  rintro e w2 ⟨rfl, b2⟩
  have P2 := Lib.hid (P1.out.call b2)
  have B2 := Lib.hid (B1.out.later b2)
  clear b2
  go_wp2_with fail
  refine (HW.out _ P2.out.below).mono ?_
  rintro e w3 ⟨rfl, b3⟩
  have P3 := Lib.hid (P2.out.call b3)
  have B3 := Lib.hid (B2.out.later b3)
  clear b3
  obtain ⟨d0, d1, d2, d3, d4, d5, d6⟩ := B3.out.cells
  go_wp2_with fail
  refine (HS.out _ P3.out.below).mono ?_
  rintro e w4 ⟨rfl, b4⟩
  have P4 := Lib.hid (P3.out.call b4)
  clear b4 d0 d1 d2 d3 d4 d5 d6
  obtain ⟨g0, g1, g2⟩ := P4.out.box.cells
  obtain ⟨f0, f1, f2⟩ := P4.out.box.free
  simp only [SC.zV] at g0 g1 g2
  go_wp2_with fail
  exact bodyPost_ret (v := .tuple #[.agg #[.int .i64 0, .int .i64 0, .string ⟨#[]⟩], .int .i64 se]) (by simp [results, Tryz.results104, go_sem, g0, g1, g2]) rfl ⟨rfl, by first | exact set3_new P4.out.below _ _ _ | exact P4.out.below⟩
theorem callDoCoalesce (xs : List BV.V) (r : Ans) (H : Nat) (w : World) (hx : SC.look ⟨#[99, 111, 97, 108, 101, 115, 99, 101]⟩ = some (⟨⟨#[99, 111, 97, 108, 101, 115, 99, 101]⟩, 1, (-1), 0, 0, 0, 170⟩ : SC.Fn)) (hA : Args w H xs) (hm : xs.length ≤ 2000) (ht : SC.takesB 1 (-1) xs.length = true) (hok : BV.allOk xs = true)
  (hdo : ∀ W, Below w.heap.size w W → Calls Tryz.prog 170 #[.slice (some ⟨H, 0, none⟩) xs.length xs.length] W fun e w' => e = .returned (vA r) ∧ Below W.heap.size W w') :
  Calls Tryz.prog 104 #[.string ⟨#[99, 111, 97, 108, 101, 115, 99, 101]⟩, .slice (some ⟨H, 0, none⟩) xs.length xs.length] w fun e w' => e = .returned (vA r) ∧ Below w.heap.size w w' := by
 have HZ := Lib.hid (zero_box w)
 have HF : Hid (∀ w, Calls Tryz.prog 140 #[.string ⟨#[99, 111, 97, 108, 101, 115, 99, 101]⟩] w fun e w' => e = .returned (.tuple #[.agg #[.string ⟨#[99, 111, 97, 108, 101, 115, 99, 101]⟩, .int .i64 1, .int .i64 (-1), .int .u64 0, .int .u64 0, .int .u64 0, .func (.func 170) #[] #[]], .bool true]) ∧ Below w.heap.size w w') := by
  intro w
  have h := SC.find_any ⟨#[99, 111, 97, 108, 101, 115, 99, 101]⟩ w
  rw [hx] at h
  exact h
 have HT : Hid (∀ w, Calls Tryz.prog 141 #[.agg #[.string ⟨#[99, 111, 97, 108, 101, 115, 99, 101]⟩, .int .i64 1, .int .i64 (-1), .int .u64 0, .int .u64 0, .int .u64 0, .func (.func 170) #[] #[]], .int .i64 xs.length] w fun e w' => e = .returned (.bool true) ∧ Below w.heap.size w w') := by
  intro w
  have h := SC.takes_any (⟨⟨#[99, 111, 97, 108, 101, 115, 99, 101]⟩, 1, (-1), 0, 0, 0, 170⟩ : SC.Fn) xs.length w
  rw [ht] at h
  exact h
 have HW : Hid (∀ W, Below w.heap.size w W → Calls Tryz.prog 138 #[.slice (some ⟨H, 0, none⟩) xs.length xs.length] W fun e w' => e = .returned (.bool false) ∧ Below W.heap.size W w') := by
  intro W hW
  have h := SC.wrong_any xs _ xs.length W (hA.later hW).row (by omega)
  rw [hok] at h
  exact h
 have HDO := Lib.hid hdo
 have hneq : ∀ w, (binOp .neq 179 (.agg #[.int .u64 0, .int .u64 0, .int .u64 0]) (.agg #[.int .u64 0, .int .u64 0, .int .u64 0])).run Tryz.prog w = .ok (.bool false) w := fun _ => by kernel_rfl
 obtain ⟨er, uk, ui, us⟩ := r
 unfold vA at *
 simp only at HDO ⊢
 clear hx ht hA hok hm hdo
 generalize xs.length = n at *
 go_enter Tryz.func104, Tryz.ntmps104
 go_wp2_with fail
 refine (HF.out _).mono ?_
 rintro e w1 ⟨rfl, b1⟩
 have P1 := Lib.hid ((HZ.out.call b1).alloc (.cells #[.string ⟨#[99, 111, 97, 108, 101, 115, 99, 101]⟩, .int .i64 1, .int .i64 (-1), .int .u64 0, .int .u64 0, .int .u64 0, .func (.func 170) #[] #[]] 182))
 have B1 := Lib.hid (FnBox.made w1 (⟨⟨#[99, 111, 97, 108, 101, 115, 99, 101]⟩, 1, (-1), 0, 0, 0, 170⟩ : SC.Fn))
 clear b1
 go_wp2_with fail
 refine (HT.out _).mono ?_
 rintro e w2 ⟨rfl, b2⟩
 have P2 := Lib.hid (P1.out.call b2)
 have B2 := Lib.hid (B1.out.later b2)
 clear b2
 go_wp2_with fail
 refine (HW.out _ P2.out.below).mono ?_
 rintro e w3 ⟨rfl, b3⟩
 have P3 := Lib.hid (P2.out.call b3)
 have B3 := Lib.hid (B2.out.later b3)
 clear b3
 obtain ⟨d0, d1, d2, d3, d4, d5, d6⟩ := B3.out.cells
 go_wp2_with fail
 refine (HDO.out _ P3.out.below).mono ?_
 rintro e w5 ⟨rfl, b5⟩
 have P5 := Lib.hid (P3.out.call b5)
 clear b5 d0 d1 d2 d3 d4 d5 d6
 obtain ⟨g0, g1, g2⟩ := P5.out.box.cells
 obtain ⟨f0, f1, f2⟩ := P5.out.box.free
 simp only [SC.zV] at g0 g1 g2
 go_wp2_with fail
 exact bodyPost_ret (v := .tuple #[.agg #[.int .i64 uk, .int .i64 ui, .string us], .int .i64 er]) (by simp [results, Tryz.results104, go_sem, g0, g1, g2]) rfl ⟨rfl, by first | exact set3_new P5.out.below _ _ _ | exact P5.out.below⟩
theorem callDoNullif (xs : List BV.V) (r : Ans) (H : Nat) (w : World) (hx : SC.look ⟨#[110, 117, 108, 108, 105, 102]⟩ = some (⟨⟨#[110, 117, 108, 108, 105, 102]⟩, 2, 2, 0, 0, 0, 171⟩ : SC.Fn)) (hA : Args w H xs) (hm : xs.length ≤ 2000) (ht : SC.takesB 2 2 xs.length = true) (hok : BV.allOk xs = true)
  (hdo : ∀ W, Below w.heap.size w W → Calls Tryz.prog 171 #[.slice (some ⟨H, 0, none⟩) xs.length xs.length] W fun e w' => e = .returned (vA r) ∧ Below W.heap.size W w') :
  Calls Tryz.prog 104 #[.string ⟨#[110, 117, 108, 108, 105, 102]⟩, .slice (some ⟨H, 0, none⟩) xs.length xs.length] w fun e w' => e = .returned (vA r) ∧ Below w.heap.size w w' := by
 have HZ := Lib.hid (zero_box w)
 have HF : Hid (∀ w, Calls Tryz.prog 140 #[.string ⟨#[110, 117, 108, 108, 105, 102]⟩] w fun e w' => e = .returned (.tuple #[.agg #[.string ⟨#[110, 117, 108, 108, 105, 102]⟩, .int .i64 2, .int .i64 2, .int .u64 0, .int .u64 0, .int .u64 0, .func (.func 171) #[] #[]], .bool true]) ∧ Below w.heap.size w w') := by
  intro w
  have h := SC.find_any ⟨#[110, 117, 108, 108, 105, 102]⟩ w
  rw [hx] at h
  exact h
 have HT : Hid (∀ w, Calls Tryz.prog 141 #[.agg #[.string ⟨#[110, 117, 108, 108, 105, 102]⟩, .int .i64 2, .int .i64 2, .int .u64 0, .int .u64 0, .int .u64 0, .func (.func 171) #[] #[]], .int .i64 xs.length] w fun e w' => e = .returned (.bool true) ∧ Below w.heap.size w w') := by
  intro w
  have h := SC.takes_any (⟨⟨#[110, 117, 108, 108, 105, 102]⟩, 2, 2, 0, 0, 0, 171⟩ : SC.Fn) xs.length w
  rw [ht] at h
  exact h
 have HW : Hid (∀ W, Below w.heap.size w W → Calls Tryz.prog 138 #[.slice (some ⟨H, 0, none⟩) xs.length xs.length] W fun e w' => e = .returned (.bool false) ∧ Below W.heap.size W w') := by
  intro W hW
  have h := SC.wrong_any xs _ xs.length W (hA.later hW).row (by omega)
  rw [hok] at h
  exact h
 have HDO := Lib.hid hdo
 have hneq : ∀ w, (binOp .neq 179 (.agg #[.int .u64 0, .int .u64 0, .int .u64 0]) (.agg #[.int .u64 0, .int .u64 0, .int .u64 0])).run Tryz.prog w = .ok (.bool false) w := fun _ => by kernel_rfl
 obtain ⟨er, uk, ui, us⟩ := r
 unfold vA at *
 simp only at HDO ⊢
 clear hx ht hA hok hm hdo
 generalize xs.length = n at *
 go_enter Tryz.func104, Tryz.ntmps104
 go_wp2_with fail
 refine (HF.out _).mono ?_
 rintro e w1 ⟨rfl, b1⟩
 have P1 := Lib.hid ((HZ.out.call b1).alloc (.cells #[.string ⟨#[110, 117, 108, 108, 105, 102]⟩, .int .i64 2, .int .i64 2, .int .u64 0, .int .u64 0, .int .u64 0, .func (.func 171) #[] #[]] 182))
 have B1 := Lib.hid (FnBox.made w1 (⟨⟨#[110, 117, 108, 108, 105, 102]⟩, 2, 2, 0, 0, 0, 171⟩ : SC.Fn))
 clear b1
 go_wp2_with fail
 refine (HT.out _).mono ?_
 rintro e w2 ⟨rfl, b2⟩
 have P2 := Lib.hid (P1.out.call b2)
 have B2 := Lib.hid (B1.out.later b2)
 clear b2
 go_wp2_with fail
 refine (HW.out _ P2.out.below).mono ?_
 rintro e w3 ⟨rfl, b3⟩
 have P3 := Lib.hid (P2.out.call b3)
 have B3 := Lib.hid (B2.out.later b3)
 clear b3
 obtain ⟨d0, d1, d2, d3, d4, d5, d6⟩ := B3.out.cells
 go_wp2_with fail
 refine (HDO.out _ P3.out.below).mono ?_
 rintro e w5 ⟨rfl, b5⟩
 have P5 := Lib.hid (P3.out.call b5)
 clear b5 d0 d1 d2 d3 d4 d5 d6
 obtain ⟨g0, g1, g2⟩ := P5.out.box.cells
 obtain ⟨f0, f1, f2⟩ := P5.out.box.free
 simp only [SC.zV] at g0 g1 g2
 go_wp2_with fail
 exact bodyPost_ret (v := .tuple #[.agg #[.int .i64 uk, .int .i64 ui, .string us], .int .i64 er]) (by simp [results, Tryz.results104, go_sem, g0, g1, g2]) rfl ⟨rfl, by first | exact set3_new P5.out.below _ _ _ | exact P5.out.below⟩
theorem callDoAbs (xs : List BV.V) (r : Ans) (H : Nat) (w : World) (hx : SC.look ⟨#[97, 98, 115]⟩ = some (⟨⟨#[97, 98, 115]⟩, 1, 1, 4, 0, 0, 172⟩ : SC.Fn)) (hA : Args w H xs) (ht : SC.takesB 1 1 xs.length = true) (hok : BV.allOk xs = true) (h3 : xs.length ≤ 3) (hk : ∀ j (h : j < xs.length), SC.KindOk ([(4 : Int), 0, 0][j]'(by simp; omega))) (hs : SC.okK [4, 0, 0] xs = true) (hn : SC.nulB xs = false)
  (hdo : ∀ W, Below w.heap.size w W → Calls Tryz.prog 172 #[.slice (some ⟨H, 0, none⟩) xs.length xs.length] W fun e w' => e = .returned (vA r) ∧ Below W.heap.size W w') :
  Calls Tryz.prog 104 #[.string ⟨#[97, 98, 115]⟩, .slice (some ⟨H, 0, none⟩) xs.length xs.length] w fun e w' => e = .returned (vA r) ∧ Below w.heap.size w w' := by
 have hm : xs.length ≤ 2000 := by omega
 have HZ := Lib.hid (zero_box w)
 have HF : Hid (∀ w, Calls Tryz.prog 140 #[.string ⟨#[97, 98, 115]⟩] w fun e w' => e = .returned (.tuple #[.agg #[.string ⟨#[97, 98, 115]⟩, .int .i64 1, .int .i64 1, .int .u64 4, .int .u64 0, .int .u64 0, .func (.func 172) #[] #[]], .bool true]) ∧ Below w.heap.size w w') := by
  intro w
  have h := SC.find_any ⟨#[97, 98, 115]⟩ w
  rw [hx] at h
  exact h
 have HT : Hid (∀ w, Calls Tryz.prog 141 #[.agg #[.string ⟨#[97, 98, 115]⟩, .int .i64 1, .int .i64 1, .int .u64 4, .int .u64 0, .int .u64 0, .func (.func 172) #[] #[]], .int .i64 xs.length] w fun e w' => e = .returned (.bool true) ∧ Below w.heap.size w w') := by
  intro w
  have h := SC.takes_any (⟨⟨#[97, 98, 115]⟩, 1, 1, 4, 0, 0, 172⟩ : SC.Fn) xs.length w
  rw [ht] at h
  exact h
 have HW : Hid (∀ W, Below w.heap.size w W → Calls Tryz.prog 138 #[.slice (some ⟨H, 0, none⟩) xs.length xs.length] W fun e w' => e = .returned (.bool false) ∧ Below W.heap.size W w') := by
  intro W hW
  have h := SC.wrong_any xs _ xs.length W (hA.later hW).row (by omega)
  rw [hok] at h
  exact h
 have HS : Hid (∀ W, Below w.heap.size w W → Calls Tryz.prog 139 #[.agg #[.int .u64 4, .int .u64 0, .int .u64 0], .slice (some ⟨H, 0, none⟩) xs.length xs.length] W fun e w' => e = .returned (.tuple #[.bool false, .int .i64 0]) ∧ Below W.heap.size W w') := by
  intro W hW
  have h := SC.strict_any 4 0 0 xs _ xs.length W (hA.later hW).row h3 hk hok
  unfold SC.stN SC.stE at h
  rw [hs, hn] at h
  exact h
 have HDO := Lib.hid hdo
 have hneq : ∀ w, (binOp .neq 179 (.agg #[.int .u64 4, .int .u64 0, .int .u64 0]) (.agg #[.int .u64 0, .int .u64 0, .int .u64 0])).run Tryz.prog w = .ok (.bool true) w := fun _ => by kernel_rfl
 obtain ⟨er, uk, ui, us⟩ := r
 unfold vA at *
 simp only at HDO ⊢
 clear hx ht hA hok hm hdo hk h3 hs hn
 generalize xs.length = n at *
 go_enter Tryz.func104, Tryz.ntmps104
 go_wp2_with fail
 refine (HF.out _).mono ?_
 rintro e w1 ⟨rfl, b1⟩
 have P1 := Lib.hid ((HZ.out.call b1).alloc (.cells #[.string ⟨#[97, 98, 115]⟩, .int .i64 1, .int .i64 1, .int .u64 4, .int .u64 0, .int .u64 0, .func (.func 172) #[] #[]] 182))
 have B1 := Lib.hid (FnBox.made w1 (⟨⟨#[97, 98, 115]⟩, 1, 1, 4, 0, 0, 172⟩ : SC.Fn))
 clear b1
 go_wp2_with fail
 refine (HT.out _).mono ?_
 rintro e w2 ⟨rfl, b2⟩
 have P2 := Lib.hid (P1.out.call b2)
 have B2 := Lib.hid (B1.out.later b2)
 clear b2
 go_wp2_with fail
 refine (HW.out _ P2.out.below).mono ?_
 rintro e w3 ⟨rfl, b3⟩
 have P3 := Lib.hid (P2.out.call b3)
 have B3 := Lib.hid (B2.out.later b3)
 clear b3
 obtain ⟨d0, d1, d2, d3, d4, d5, d6⟩ := B3.out.cells
 go_wp2_with fail
 refine (HS.out _ P3.out.below).mono ?_
 rintro e w4 ⟨rfl, b4⟩
 have P4 := Lib.hid (P3.out.call b4)
 have B4 := Lib.hid (B3.out.later b4)
 clear b4 d0 d1 d2 d3 d4 d5 d6
 obtain ⟨d0, d1, d2, d3, d4, d5, d6⟩ := B4.out.cells
 go_wp2_with fail
 refine (HDO.out _ P4.out.below).mono ?_
 rintro e w5 ⟨rfl, b5⟩
 have P5 := Lib.hid (P4.out.call b5)
 clear b5 d0 d1 d2 d3 d4 d5 d6
 obtain ⟨g0, g1, g2⟩ := P5.out.box.cells
 obtain ⟨f0, f1, f2⟩ := P5.out.box.free
 simp only [SC.zV] at g0 g1 g2
 go_wp2_with fail
 exact bodyPost_ret (v := .tuple #[.agg #[.int .i64 uk, .int .i64 ui, .string us], .int .i64 er]) (by simp [results, Tryz.results104, go_sem, g0, g1, g2]) rfl ⟨rfl, by first | exact set3_new P5.out.below _ _ _ | exact P5.out.below⟩
theorem callDoSign (xs : List BV.V) (r : Ans) (H : Nat) (w : World) (hx : SC.look ⟨#[115, 105, 103, 110]⟩ = some (⟨⟨#[115, 105, 103, 110]⟩, 1, 1, 4, 0, 0, 173⟩ : SC.Fn)) (hA : Args w H xs) (ht : SC.takesB 1 1 xs.length = true) (hok : BV.allOk xs = true) (h3 : xs.length ≤ 3) (hk : ∀ j (h : j < xs.length), SC.KindOk ([(4 : Int), 0, 0][j]'(by simp; omega))) (hs : SC.okK [4, 0, 0] xs = true) (hn : SC.nulB xs = false)
  (hdo : ∀ W, Below w.heap.size w W → Calls Tryz.prog 173 #[.slice (some ⟨H, 0, none⟩) xs.length xs.length] W fun e w' => e = .returned (vA r) ∧ Below W.heap.size W w') :
  Calls Tryz.prog 104 #[.string ⟨#[115, 105, 103, 110]⟩, .slice (some ⟨H, 0, none⟩) xs.length xs.length] w fun e w' => e = .returned (vA r) ∧ Below w.heap.size w w' := by
 have hm : xs.length ≤ 2000 := by omega
 have HZ := Lib.hid (zero_box w)
 have HF : Hid (∀ w, Calls Tryz.prog 140 #[.string ⟨#[115, 105, 103, 110]⟩] w fun e w' => e = .returned (.tuple #[.agg #[.string ⟨#[115, 105, 103, 110]⟩, .int .i64 1, .int .i64 1, .int .u64 4, .int .u64 0, .int .u64 0, .func (.func 173) #[] #[]], .bool true]) ∧ Below w.heap.size w w') := by
  intro w
  have h := SC.find_any ⟨#[115, 105, 103, 110]⟩ w
  rw [hx] at h
  exact h
 have HT : Hid (∀ w, Calls Tryz.prog 141 #[.agg #[.string ⟨#[115, 105, 103, 110]⟩, .int .i64 1, .int .i64 1, .int .u64 4, .int .u64 0, .int .u64 0, .func (.func 173) #[] #[]], .int .i64 xs.length] w fun e w' => e = .returned (.bool true) ∧ Below w.heap.size w w') := by
  intro w
  have h := SC.takes_any (⟨⟨#[115, 105, 103, 110]⟩, 1, 1, 4, 0, 0, 173⟩ : SC.Fn) xs.length w
  rw [ht] at h
  exact h
 have HW : Hid (∀ W, Below w.heap.size w W → Calls Tryz.prog 138 #[.slice (some ⟨H, 0, none⟩) xs.length xs.length] W fun e w' => e = .returned (.bool false) ∧ Below W.heap.size W w') := by
  intro W hW
  have h := SC.wrong_any xs _ xs.length W (hA.later hW).row (by omega)
  rw [hok] at h
  exact h
 have HS : Hid (∀ W, Below w.heap.size w W → Calls Tryz.prog 139 #[.agg #[.int .u64 4, .int .u64 0, .int .u64 0], .slice (some ⟨H, 0, none⟩) xs.length xs.length] W fun e w' => e = .returned (.tuple #[.bool false, .int .i64 0]) ∧ Below W.heap.size W w') := by
  intro W hW
  have h := SC.strict_any 4 0 0 xs _ xs.length W (hA.later hW).row h3 hk hok
  unfold SC.stN SC.stE at h
  rw [hs, hn] at h
  exact h
 have HDO := Lib.hid hdo
 have hneq : ∀ w, (binOp .neq 179 (.agg #[.int .u64 4, .int .u64 0, .int .u64 0]) (.agg #[.int .u64 0, .int .u64 0, .int .u64 0])).run Tryz.prog w = .ok (.bool true) w := fun _ => by kernel_rfl
 obtain ⟨er, uk, ui, us⟩ := r
 unfold vA at *
 simp only at HDO ⊢
 clear hx ht hA hok hm hdo hk h3 hs hn
 generalize xs.length = n at *
 go_enter Tryz.func104, Tryz.ntmps104
 go_wp2_with fail
 refine (HF.out _).mono ?_
 rintro e w1 ⟨rfl, b1⟩
 have P1 := Lib.hid ((HZ.out.call b1).alloc (.cells #[.string ⟨#[115, 105, 103, 110]⟩, .int .i64 1, .int .i64 1, .int .u64 4, .int .u64 0, .int .u64 0, .func (.func 173) #[] #[]] 182))
 have B1 := Lib.hid (FnBox.made w1 (⟨⟨#[115, 105, 103, 110]⟩, 1, 1, 4, 0, 0, 173⟩ : SC.Fn))
 clear b1
 go_wp2_with fail
 refine (HT.out _).mono ?_
 rintro e w2 ⟨rfl, b2⟩
 have P2 := Lib.hid (P1.out.call b2)
 have B2 := Lib.hid (B1.out.later b2)
 clear b2
 go_wp2_with fail
 refine (HW.out _ P2.out.below).mono ?_
 rintro e w3 ⟨rfl, b3⟩
 have P3 := Lib.hid (P2.out.call b3)
 have B3 := Lib.hid (B2.out.later b3)
 clear b3
 obtain ⟨d0, d1, d2, d3, d4, d5, d6⟩ := B3.out.cells
 go_wp2_with fail
 refine (HS.out _ P3.out.below).mono ?_
 rintro e w4 ⟨rfl, b4⟩
 have P4 := Lib.hid (P3.out.call b4)
 have B4 := Lib.hid (B3.out.later b4)
 clear b4 d0 d1 d2 d3 d4 d5 d6
 obtain ⟨d0, d1, d2, d3, d4, d5, d6⟩ := B4.out.cells
 go_wp2_with fail
 refine (HDO.out _ P4.out.below).mono ?_
 rintro e w5 ⟨rfl, b5⟩
 have P5 := Lib.hid (P4.out.call b5)
 clear b5 d0 d1 d2 d3 d4 d5 d6
 obtain ⟨g0, g1, g2⟩ := P5.out.box.cells
 obtain ⟨f0, f1, f2⟩ := P5.out.box.free
 simp only [SC.zV] at g0 g1 g2
 go_wp2_with fail
 exact bodyPost_ret (v := .tuple #[.agg #[.int .i64 uk, .int .i64 ui, .string us], .int .i64 er]) (by simp [results, Tryz.results104, go_sem, g0, g1, g2]) rfl ⟨rfl, by first | exact set3_new P5.out.below _ _ _ | exact P5.out.below⟩
theorem callDoLength (xs : List BV.V) (r : Ans) (H : Nat) (w : World) (hx : SC.look ⟨#[108, 101, 110, 103, 116, 104]⟩ = some (⟨⟨#[108, 101, 110, 103, 116, 104]⟩, 1, 1, 24, 0, 0, 174⟩ : SC.Fn)) (hA : Args w H xs) (ht : SC.takesB 1 1 xs.length = true) (hok : BV.allOk xs = true) (h3 : xs.length ≤ 3) (hk : ∀ j (h : j < xs.length), SC.KindOk ([(24 : Int), 0, 0][j]'(by simp; omega))) (hs : SC.okK [24, 0, 0] xs = true) (hn : SC.nulB xs = false)
  (hdo : ∀ W, Below w.heap.size w W → Calls Tryz.prog 174 #[.slice (some ⟨H, 0, none⟩) xs.length xs.length] W fun e w' => e = .returned (vA r) ∧ Below W.heap.size W w') :
  Calls Tryz.prog 104 #[.string ⟨#[108, 101, 110, 103, 116, 104]⟩, .slice (some ⟨H, 0, none⟩) xs.length xs.length] w fun e w' => e = .returned (vA r) ∧ Below w.heap.size w w' := by
 have hm : xs.length ≤ 2000 := by omega
 have HZ := Lib.hid (zero_box w)
 have HF : Hid (∀ w, Calls Tryz.prog 140 #[.string ⟨#[108, 101, 110, 103, 116, 104]⟩] w fun e w' => e = .returned (.tuple #[.agg #[.string ⟨#[108, 101, 110, 103, 116, 104]⟩, .int .i64 1, .int .i64 1, .int .u64 24, .int .u64 0, .int .u64 0, .func (.func 174) #[] #[]], .bool true]) ∧ Below w.heap.size w w') := by
  intro w
  have h := SC.find_any ⟨#[108, 101, 110, 103, 116, 104]⟩ w
  rw [hx] at h
  exact h
 have HT : Hid (∀ w, Calls Tryz.prog 141 #[.agg #[.string ⟨#[108, 101, 110, 103, 116, 104]⟩, .int .i64 1, .int .i64 1, .int .u64 24, .int .u64 0, .int .u64 0, .func (.func 174) #[] #[]], .int .i64 xs.length] w fun e w' => e = .returned (.bool true) ∧ Below w.heap.size w w') := by
  intro w
  have h := SC.takes_any (⟨⟨#[108, 101, 110, 103, 116, 104]⟩, 1, 1, 24, 0, 0, 174⟩ : SC.Fn) xs.length w
  rw [ht] at h
  exact h
 have HW : Hid (∀ W, Below w.heap.size w W → Calls Tryz.prog 138 #[.slice (some ⟨H, 0, none⟩) xs.length xs.length] W fun e w' => e = .returned (.bool false) ∧ Below W.heap.size W w') := by
  intro W hW
  have h := SC.wrong_any xs _ xs.length W (hA.later hW).row (by omega)
  rw [hok] at h
  exact h
 have HS : Hid (∀ W, Below w.heap.size w W → Calls Tryz.prog 139 #[.agg #[.int .u64 24, .int .u64 0, .int .u64 0], .slice (some ⟨H, 0, none⟩) xs.length xs.length] W fun e w' => e = .returned (.tuple #[.bool false, .int .i64 0]) ∧ Below W.heap.size W w') := by
  intro W hW
  have h := SC.strict_any 24 0 0 xs _ xs.length W (hA.later hW).row h3 hk hok
  unfold SC.stN SC.stE at h
  rw [hs, hn] at h
  exact h
 have HDO := Lib.hid hdo
 have hneq : ∀ w, (binOp .neq 179 (.agg #[.int .u64 24, .int .u64 0, .int .u64 0]) (.agg #[.int .u64 0, .int .u64 0, .int .u64 0])).run Tryz.prog w = .ok (.bool true) w := fun _ => by kernel_rfl
 obtain ⟨er, uk, ui, us⟩ := r
 unfold vA at *
 simp only at HDO ⊢
 clear hx ht hA hok hm hdo hk h3 hs hn
 generalize xs.length = n at *
 go_enter Tryz.func104, Tryz.ntmps104
 go_wp2_with fail
 refine (HF.out _).mono ?_
 rintro e w1 ⟨rfl, b1⟩
 have P1 := Lib.hid ((HZ.out.call b1).alloc (.cells #[.string ⟨#[108, 101, 110, 103, 116, 104]⟩, .int .i64 1, .int .i64 1, .int .u64 24, .int .u64 0, .int .u64 0, .func (.func 174) #[] #[]] 182))
 have B1 := Lib.hid (FnBox.made w1 (⟨⟨#[108, 101, 110, 103, 116, 104]⟩, 1, 1, 24, 0, 0, 174⟩ : SC.Fn))
 clear b1
 go_wp2_with fail
 refine (HT.out _).mono ?_
 rintro e w2 ⟨rfl, b2⟩
 have P2 := Lib.hid (P1.out.call b2)
 have B2 := Lib.hid (B1.out.later b2)
 clear b2
 go_wp2_with fail
 refine (HW.out _ P2.out.below).mono ?_
 rintro e w3 ⟨rfl, b3⟩
 have P3 := Lib.hid (P2.out.call b3)
 have B3 := Lib.hid (B2.out.later b3)
 clear b3
 obtain ⟨d0, d1, d2, d3, d4, d5, d6⟩ := B3.out.cells
 go_wp2_with fail
 refine (HS.out _ P3.out.below).mono ?_
 rintro e w4 ⟨rfl, b4⟩
 have P4 := Lib.hid (P3.out.call b4)
 have B4 := Lib.hid (B3.out.later b4)
 clear b4 d0 d1 d2 d3 d4 d5 d6
 obtain ⟨d0, d1, d2, d3, d4, d5, d6⟩ := B4.out.cells
 go_wp2_with fail
 refine (HDO.out _ P4.out.below).mono ?_
 rintro e w5 ⟨rfl, b5⟩
 have P5 := Lib.hid (P4.out.call b5)
 clear b5 d0 d1 d2 d3 d4 d5 d6
 obtain ⟨g0, g1, g2⟩ := P5.out.box.cells
 obtain ⟨f0, f1, f2⟩ := P5.out.box.free
 simp only [SC.zV] at g0 g1 g2
 go_wp2_with fail
 exact bodyPost_ret (v := .tuple #[.agg #[.int .i64 uk, .int .i64 ui, .string us], .int .i64 er]) (by simp [results, Tryz.results104, go_sem, g0, g1, g2]) rfl ⟨rfl, by first | exact set3_new P5.out.below _ _ _ | exact P5.out.below⟩
theorem callDoLower (xs : List BV.V) (r : Ans) (H : Nat) (w : World) (hx : SC.look ⟨#[108, 111, 119, 101, 114]⟩ = some (⟨⟨#[108, 111, 119, 101, 114]⟩, 1, 1, 8, 0, 0, 175⟩ : SC.Fn)) (hA : Args w H xs) (ht : SC.takesB 1 1 xs.length = true) (hok : BV.allOk xs = true) (h3 : xs.length ≤ 3) (hk : ∀ j (h : j < xs.length), SC.KindOk ([(8 : Int), 0, 0][j]'(by simp; omega))) (hs : SC.okK [8, 0, 0] xs = true) (hn : SC.nulB xs = false)
  (hdo : ∀ W, Below w.heap.size w W → Calls Tryz.prog 175 #[.slice (some ⟨H, 0, none⟩) xs.length xs.length] W fun e w' => e = .returned (vA r) ∧ Below W.heap.size W w') :
  Calls Tryz.prog 104 #[.string ⟨#[108, 111, 119, 101, 114]⟩, .slice (some ⟨H, 0, none⟩) xs.length xs.length] w fun e w' => e = .returned (vA r) ∧ Below w.heap.size w w' := by
 have hm : xs.length ≤ 2000 := by omega
 have HZ := Lib.hid (zero_box w)
 have HF : Hid (∀ w, Calls Tryz.prog 140 #[.string ⟨#[108, 111, 119, 101, 114]⟩] w fun e w' => e = .returned (.tuple #[.agg #[.string ⟨#[108, 111, 119, 101, 114]⟩, .int .i64 1, .int .i64 1, .int .u64 8, .int .u64 0, .int .u64 0, .func (.func 175) #[] #[]], .bool true]) ∧ Below w.heap.size w w') := by
  intro w
  have h := SC.find_any ⟨#[108, 111, 119, 101, 114]⟩ w
  rw [hx] at h
  exact h
 have HT : Hid (∀ w, Calls Tryz.prog 141 #[.agg #[.string ⟨#[108, 111, 119, 101, 114]⟩, .int .i64 1, .int .i64 1, .int .u64 8, .int .u64 0, .int .u64 0, .func (.func 175) #[] #[]], .int .i64 xs.length] w fun e w' => e = .returned (.bool true) ∧ Below w.heap.size w w') := by
  intro w
  have h := SC.takes_any (⟨⟨#[108, 111, 119, 101, 114]⟩, 1, 1, 8, 0, 0, 175⟩ : SC.Fn) xs.length w
  rw [ht] at h
  exact h
 have HW : Hid (∀ W, Below w.heap.size w W → Calls Tryz.prog 138 #[.slice (some ⟨H, 0, none⟩) xs.length xs.length] W fun e w' => e = .returned (.bool false) ∧ Below W.heap.size W w') := by
  intro W hW
  have h := SC.wrong_any xs _ xs.length W (hA.later hW).row (by omega)
  rw [hok] at h
  exact h
 have HS : Hid (∀ W, Below w.heap.size w W → Calls Tryz.prog 139 #[.agg #[.int .u64 8, .int .u64 0, .int .u64 0], .slice (some ⟨H, 0, none⟩) xs.length xs.length] W fun e w' => e = .returned (.tuple #[.bool false, .int .i64 0]) ∧ Below W.heap.size W w') := by
  intro W hW
  have h := SC.strict_any 8 0 0 xs _ xs.length W (hA.later hW).row h3 hk hok
  unfold SC.stN SC.stE at h
  rw [hs, hn] at h
  exact h
 have HDO := Lib.hid hdo
 have hneq : ∀ w, (binOp .neq 179 (.agg #[.int .u64 8, .int .u64 0, .int .u64 0]) (.agg #[.int .u64 0, .int .u64 0, .int .u64 0])).run Tryz.prog w = .ok (.bool true) w := fun _ => by kernel_rfl
 obtain ⟨er, uk, ui, us⟩ := r
 unfold vA at *
 simp only at HDO ⊢
 clear hx ht hA hok hm hdo hk h3 hs hn
 generalize xs.length = n at *
 go_enter Tryz.func104, Tryz.ntmps104
 go_wp2_with fail
 refine (HF.out _).mono ?_
 rintro e w1 ⟨rfl, b1⟩
 have P1 := Lib.hid ((HZ.out.call b1).alloc (.cells #[.string ⟨#[108, 111, 119, 101, 114]⟩, .int .i64 1, .int .i64 1, .int .u64 8, .int .u64 0, .int .u64 0, .func (.func 175) #[] #[]] 182))
 have B1 := Lib.hid (FnBox.made w1 (⟨⟨#[108, 111, 119, 101, 114]⟩, 1, 1, 8, 0, 0, 175⟩ : SC.Fn))
 clear b1
 go_wp2_with fail
 refine (HT.out _).mono ?_
 rintro e w2 ⟨rfl, b2⟩
 have P2 := Lib.hid (P1.out.call b2)
 have B2 := Lib.hid (B1.out.later b2)
 clear b2
 go_wp2_with fail
 refine (HW.out _ P2.out.below).mono ?_
 rintro e w3 ⟨rfl, b3⟩
 have P3 := Lib.hid (P2.out.call b3)
 have B3 := Lib.hid (B2.out.later b3)
 clear b3
 obtain ⟨d0, d1, d2, d3, d4, d5, d6⟩ := B3.out.cells
 go_wp2_with fail
 refine (HS.out _ P3.out.below).mono ?_
 rintro e w4 ⟨rfl, b4⟩
 have P4 := Lib.hid (P3.out.call b4)
 have B4 := Lib.hid (B3.out.later b4)
 clear b4 d0 d1 d2 d3 d4 d5 d6
 obtain ⟨d0, d1, d2, d3, d4, d5, d6⟩ := B4.out.cells
 go_wp2_with fail
 refine (HDO.out _ P4.out.below).mono ?_
 rintro e w5 ⟨rfl, b5⟩
 have P5 := Lib.hid (P4.out.call b5)
 clear b5 d0 d1 d2 d3 d4 d5 d6
 obtain ⟨g0, g1, g2⟩ := P5.out.box.cells
 obtain ⟨f0, f1, f2⟩ := P5.out.box.free
 simp only [SC.zV] at g0 g1 g2
 go_wp2_with fail
 exact bodyPost_ret (v := .tuple #[.agg #[.int .i64 uk, .int .i64 ui, .string us], .int .i64 er]) (by simp [results, Tryz.results104, go_sem, g0, g1, g2]) rfl ⟨rfl, by first | exact set3_new P5.out.below _ _ _ | exact P5.out.below⟩
theorem callDoUpper (xs : List BV.V) (r : Ans) (H : Nat) (w : World) (hx : SC.look ⟨#[117, 112, 112, 101, 114]⟩ = some (⟨⟨#[117, 112, 112, 101, 114]⟩, 1, 1, 8, 0, 0, 176⟩ : SC.Fn)) (hA : Args w H xs) (ht : SC.takesB 1 1 xs.length = true) (hok : BV.allOk xs = true) (h3 : xs.length ≤ 3) (hk : ∀ j (h : j < xs.length), SC.KindOk ([(8 : Int), 0, 0][j]'(by simp; omega))) (hs : SC.okK [8, 0, 0] xs = true) (hn : SC.nulB xs = false)
  (hdo : ∀ W, Below w.heap.size w W → Calls Tryz.prog 176 #[.slice (some ⟨H, 0, none⟩) xs.length xs.length] W fun e w' => e = .returned (vA r) ∧ Below W.heap.size W w') :
  Calls Tryz.prog 104 #[.string ⟨#[117, 112, 112, 101, 114]⟩, .slice (some ⟨H, 0, none⟩) xs.length xs.length] w fun e w' => e = .returned (vA r) ∧ Below w.heap.size w w' := by
 have hm : xs.length ≤ 2000 := by omega
 have HZ := Lib.hid (zero_box w)
 have HF : Hid (∀ w, Calls Tryz.prog 140 #[.string ⟨#[117, 112, 112, 101, 114]⟩] w fun e w' => e = .returned (.tuple #[.agg #[.string ⟨#[117, 112, 112, 101, 114]⟩, .int .i64 1, .int .i64 1, .int .u64 8, .int .u64 0, .int .u64 0, .func (.func 176) #[] #[]], .bool true]) ∧ Below w.heap.size w w') := by
  intro w
  have h := SC.find_any ⟨#[117, 112, 112, 101, 114]⟩ w
  rw [hx] at h
  exact h
 have HT : Hid (∀ w, Calls Tryz.prog 141 #[.agg #[.string ⟨#[117, 112, 112, 101, 114]⟩, .int .i64 1, .int .i64 1, .int .u64 8, .int .u64 0, .int .u64 0, .func (.func 176) #[] #[]], .int .i64 xs.length] w fun e w' => e = .returned (.bool true) ∧ Below w.heap.size w w') := by
  intro w
  have h := SC.takes_any (⟨⟨#[117, 112, 112, 101, 114]⟩, 1, 1, 8, 0, 0, 176⟩ : SC.Fn) xs.length w
  rw [ht] at h
  exact h
 have HW : Hid (∀ W, Below w.heap.size w W → Calls Tryz.prog 138 #[.slice (some ⟨H, 0, none⟩) xs.length xs.length] W fun e w' => e = .returned (.bool false) ∧ Below W.heap.size W w') := by
  intro W hW
  have h := SC.wrong_any xs _ xs.length W (hA.later hW).row (by omega)
  rw [hok] at h
  exact h
 have HS : Hid (∀ W, Below w.heap.size w W → Calls Tryz.prog 139 #[.agg #[.int .u64 8, .int .u64 0, .int .u64 0], .slice (some ⟨H, 0, none⟩) xs.length xs.length] W fun e w' => e = .returned (.tuple #[.bool false, .int .i64 0]) ∧ Below W.heap.size W w') := by
  intro W hW
  have h := SC.strict_any 8 0 0 xs _ xs.length W (hA.later hW).row h3 hk hok
  unfold SC.stN SC.stE at h
  rw [hs, hn] at h
  exact h
 have HDO := Lib.hid hdo
 have hneq : ∀ w, (binOp .neq 179 (.agg #[.int .u64 8, .int .u64 0, .int .u64 0]) (.agg #[.int .u64 0, .int .u64 0, .int .u64 0])).run Tryz.prog w = .ok (.bool true) w := fun _ => by kernel_rfl
 obtain ⟨er, uk, ui, us⟩ := r
 unfold vA at *
 simp only at HDO ⊢
 clear hx ht hA hok hm hdo hk h3 hs hn
 generalize xs.length = n at *
 go_enter Tryz.func104, Tryz.ntmps104
 go_wp2_with fail
 refine (HF.out _).mono ?_
 rintro e w1 ⟨rfl, b1⟩
 have P1 := Lib.hid ((HZ.out.call b1).alloc (.cells #[.string ⟨#[117, 112, 112, 101, 114]⟩, .int .i64 1, .int .i64 1, .int .u64 8, .int .u64 0, .int .u64 0, .func (.func 176) #[] #[]] 182))
 have B1 := Lib.hid (FnBox.made w1 (⟨⟨#[117, 112, 112, 101, 114]⟩, 1, 1, 8, 0, 0, 176⟩ : SC.Fn))
 clear b1
 go_wp2_with fail
 refine (HT.out _).mono ?_
 rintro e w2 ⟨rfl, b2⟩
 have P2 := Lib.hid (P1.out.call b2)
 have B2 := Lib.hid (B1.out.later b2)
 clear b2
 go_wp2_with fail
 refine (HW.out _ P2.out.below).mono ?_
 rintro e w3 ⟨rfl, b3⟩
 have P3 := Lib.hid (P2.out.call b3)
 have B3 := Lib.hid (B2.out.later b3)
 clear b3
 obtain ⟨d0, d1, d2, d3, d4, d5, d6⟩ := B3.out.cells
 go_wp2_with fail
 refine (HS.out _ P3.out.below).mono ?_
 rintro e w4 ⟨rfl, b4⟩
 have P4 := Lib.hid (P3.out.call b4)
 have B4 := Lib.hid (B3.out.later b4)
 clear b4 d0 d1 d2 d3 d4 d5 d6
 obtain ⟨d0, d1, d2, d3, d4, d5, d6⟩ := B4.out.cells
 go_wp2_with fail
 refine (HDO.out _ P4.out.below).mono ?_
 rintro e w5 ⟨rfl, b5⟩
 have P5 := Lib.hid (P4.out.call b5)
 clear b5 d0 d1 d2 d3 d4 d5 d6
 obtain ⟨g0, g1, g2⟩ := P5.out.box.cells
 obtain ⟨f0, f1, f2⟩ := P5.out.box.free
 simp only [SC.zV] at g0 g1 g2
 go_wp2_with fail
 exact bodyPost_ret (v := .tuple #[.agg #[.int .i64 uk, .int .i64 ui, .string us], .int .i64 er]) (by simp [results, Tryz.results104, go_sem, g0, g1, g2]) rfl ⟨rfl, by first | exact set3_new P5.out.below _ _ _ | exact P5.out.below⟩
theorem callDoTrim (xs : List BV.V) (r : Ans) (H : Nat) (w : World) (hx : SC.look ⟨#[116, 114, 105, 109]⟩ = some (⟨⟨#[116, 114, 105, 109]⟩, 1, 1, 8, 0, 0, 177⟩ : SC.Fn)) (hA : Args w H xs) (ht : SC.takesB 1 1 xs.length = true) (hok : BV.allOk xs = true) (h3 : xs.length ≤ 3) (hk : ∀ j (h : j < xs.length), SC.KindOk ([(8 : Int), 0, 0][j]'(by simp; omega))) (hs : SC.okK [8, 0, 0] xs = true) (hn : SC.nulB xs = false)
  (hdo : ∀ W, Below w.heap.size w W → Calls Tryz.prog 177 #[.slice (some ⟨H, 0, none⟩) xs.length xs.length] W fun e w' => e = .returned (vA r) ∧ Below W.heap.size W w') :
  Calls Tryz.prog 104 #[.string ⟨#[116, 114, 105, 109]⟩, .slice (some ⟨H, 0, none⟩) xs.length xs.length] w fun e w' => e = .returned (vA r) ∧ Below w.heap.size w w' := by
 have hm : xs.length ≤ 2000 := by omega
 have HZ := Lib.hid (zero_box w)
 have HF : Hid (∀ w, Calls Tryz.prog 140 #[.string ⟨#[116, 114, 105, 109]⟩] w fun e w' => e = .returned (.tuple #[.agg #[.string ⟨#[116, 114, 105, 109]⟩, .int .i64 1, .int .i64 1, .int .u64 8, .int .u64 0, .int .u64 0, .func (.func 177) #[] #[]], .bool true]) ∧ Below w.heap.size w w') := by
  intro w
  have h := SC.find_any ⟨#[116, 114, 105, 109]⟩ w
  rw [hx] at h
  exact h
 have HT : Hid (∀ w, Calls Tryz.prog 141 #[.agg #[.string ⟨#[116, 114, 105, 109]⟩, .int .i64 1, .int .i64 1, .int .u64 8, .int .u64 0, .int .u64 0, .func (.func 177) #[] #[]], .int .i64 xs.length] w fun e w' => e = .returned (.bool true) ∧ Below w.heap.size w w') := by
  intro w
  have h := SC.takes_any (⟨⟨#[116, 114, 105, 109]⟩, 1, 1, 8, 0, 0, 177⟩ : SC.Fn) xs.length w
  rw [ht] at h
  exact h
 have HW : Hid (∀ W, Below w.heap.size w W → Calls Tryz.prog 138 #[.slice (some ⟨H, 0, none⟩) xs.length xs.length] W fun e w' => e = .returned (.bool false) ∧ Below W.heap.size W w') := by
  intro W hW
  have h := SC.wrong_any xs _ xs.length W (hA.later hW).row (by omega)
  rw [hok] at h
  exact h
 have HS : Hid (∀ W, Below w.heap.size w W → Calls Tryz.prog 139 #[.agg #[.int .u64 8, .int .u64 0, .int .u64 0], .slice (some ⟨H, 0, none⟩) xs.length xs.length] W fun e w' => e = .returned (.tuple #[.bool false, .int .i64 0]) ∧ Below W.heap.size W w') := by
  intro W hW
  have h := SC.strict_any 8 0 0 xs _ xs.length W (hA.later hW).row h3 hk hok
  unfold SC.stN SC.stE at h
  rw [hs, hn] at h
  exact h
 have HDO := Lib.hid hdo
 have hneq : ∀ w, (binOp .neq 179 (.agg #[.int .u64 8, .int .u64 0, .int .u64 0]) (.agg #[.int .u64 0, .int .u64 0, .int .u64 0])).run Tryz.prog w = .ok (.bool true) w := fun _ => by kernel_rfl
 obtain ⟨er, uk, ui, us⟩ := r
 unfold vA at *
 simp only at HDO ⊢
 clear hx ht hA hok hm hdo hk h3 hs hn
 generalize xs.length = n at *
 go_enter Tryz.func104, Tryz.ntmps104
 go_wp2_with fail
 refine (HF.out _).mono ?_
 rintro e w1 ⟨rfl, b1⟩
 have P1 := Lib.hid ((HZ.out.call b1).alloc (.cells #[.string ⟨#[116, 114, 105, 109]⟩, .int .i64 1, .int .i64 1, .int .u64 8, .int .u64 0, .int .u64 0, .func (.func 177) #[] #[]] 182))
 have B1 := Lib.hid (FnBox.made w1 (⟨⟨#[116, 114, 105, 109]⟩, 1, 1, 8, 0, 0, 177⟩ : SC.Fn))
 clear b1
 go_wp2_with fail
 refine (HT.out _).mono ?_
 rintro e w2 ⟨rfl, b2⟩
 have P2 := Lib.hid (P1.out.call b2)
 have B2 := Lib.hid (B1.out.later b2)
 clear b2
 go_wp2_with fail
 refine (HW.out _ P2.out.below).mono ?_
 rintro e w3 ⟨rfl, b3⟩
 have P3 := Lib.hid (P2.out.call b3)
 have B3 := Lib.hid (B2.out.later b3)
 clear b3
 obtain ⟨d0, d1, d2, d3, d4, d5, d6⟩ := B3.out.cells
 go_wp2_with fail
 refine (HS.out _ P3.out.below).mono ?_
 rintro e w4 ⟨rfl, b4⟩
 have P4 := Lib.hid (P3.out.call b4)
 have B4 := Lib.hid (B3.out.later b4)
 clear b4 d0 d1 d2 d3 d4 d5 d6
 obtain ⟨d0, d1, d2, d3, d4, d5, d6⟩ := B4.out.cells
 go_wp2_with fail
 refine (HDO.out _ P4.out.below).mono ?_
 rintro e w5 ⟨rfl, b5⟩
 have P5 := Lib.hid (P4.out.call b5)
 clear b5 d0 d1 d2 d3 d4 d5 d6
 obtain ⟨g0, g1, g2⟩ := P5.out.box.cells
 obtain ⟨f0, f1, f2⟩ := P5.out.box.free
 simp only [SC.zV] at g0 g1 g2
 go_wp2_with fail
 exact bodyPost_ret (v := .tuple #[.agg #[.int .i64 uk, .int .i64 ui, .string us], .int .i64 er]) (by simp [results, Tryz.results104, go_sem, g0, g1, g2]) rfl ⟨rfl, by first | exact set3_new P5.out.below _ _ _ | exact P5.out.below⟩
theorem callDoSubstr (xs : List BV.V) (r : Ans) (H : Nat) (w : World) (hx : SC.look ⟨#[115, 117, 98, 115, 116, 114]⟩ = some (⟨⟨#[115, 117, 98, 115, 116, 114]⟩, 3, 3, 24, 4, 4, 178⟩ : SC.Fn)) (hA : Args w H xs) (ht : SC.takesB 3 3 xs.length = true) (hok : BV.allOk xs = true) (h3 : xs.length ≤ 3) (hk : ∀ j (h : j < xs.length), SC.KindOk ([(24 : Int), 4, 4][j]'(by simp; omega))) (hs : SC.okK [24, 4, 4] xs = true) (hn : SC.nulB xs = false)
  (hdo : ∀ W, Below w.heap.size w W → Calls Tryz.prog 178 #[.slice (some ⟨H, 0, none⟩) xs.length xs.length] W fun e w' => e = .returned (vA r) ∧ Below W.heap.size W w') :
  Calls Tryz.prog 104 #[.string ⟨#[115, 117, 98, 115, 116, 114]⟩, .slice (some ⟨H, 0, none⟩) xs.length xs.length] w fun e w' => e = .returned (vA r) ∧ Below w.heap.size w w' := by
 have hm : xs.length ≤ 2000 := by omega
 have HZ := Lib.hid (zero_box w)
 have HF : Hid (∀ w, Calls Tryz.prog 140 #[.string ⟨#[115, 117, 98, 115, 116, 114]⟩] w fun e w' => e = .returned (.tuple #[.agg #[.string ⟨#[115, 117, 98, 115, 116, 114]⟩, .int .i64 3, .int .i64 3, .int .u64 24, .int .u64 4, .int .u64 4, .func (.func 178) #[] #[]], .bool true]) ∧ Below w.heap.size w w') := by
  intro w
  have h := SC.find_any ⟨#[115, 117, 98, 115, 116, 114]⟩ w
  rw [hx] at h
  exact h
 have HT : Hid (∀ w, Calls Tryz.prog 141 #[.agg #[.string ⟨#[115, 117, 98, 115, 116, 114]⟩, .int .i64 3, .int .i64 3, .int .u64 24, .int .u64 4, .int .u64 4, .func (.func 178) #[] #[]], .int .i64 xs.length] w fun e w' => e = .returned (.bool true) ∧ Below w.heap.size w w') := by
  intro w
  have h := SC.takes_any (⟨⟨#[115, 117, 98, 115, 116, 114]⟩, 3, 3, 24, 4, 4, 178⟩ : SC.Fn) xs.length w
  rw [ht] at h
  exact h
 have HW : Hid (∀ W, Below w.heap.size w W → Calls Tryz.prog 138 #[.slice (some ⟨H, 0, none⟩) xs.length xs.length] W fun e w' => e = .returned (.bool false) ∧ Below W.heap.size W w') := by
  intro W hW
  have h := SC.wrong_any xs _ xs.length W (hA.later hW).row (by omega)
  rw [hok] at h
  exact h
 have HS : Hid (∀ W, Below w.heap.size w W → Calls Tryz.prog 139 #[.agg #[.int .u64 24, .int .u64 4, .int .u64 4], .slice (some ⟨H, 0, none⟩) xs.length xs.length] W fun e w' => e = .returned (.tuple #[.bool false, .int .i64 0]) ∧ Below W.heap.size W w') := by
  intro W hW
  have h := SC.strict_any 24 4 4 xs _ xs.length W (hA.later hW).row h3 hk hok
  unfold SC.stN SC.stE at h
  rw [hs, hn] at h
  exact h
 have HDO := Lib.hid hdo
 have hneq : ∀ w, (binOp .neq 179 (.agg #[.int .u64 24, .int .u64 4, .int .u64 4]) (.agg #[.int .u64 0, .int .u64 0, .int .u64 0])).run Tryz.prog w = .ok (.bool true) w := fun _ => by kernel_rfl
 obtain ⟨er, uk, ui, us⟩ := r
 unfold vA at *
 simp only at HDO ⊢
 clear hx ht hA hok hm hdo hk h3 hs hn
 generalize xs.length = n at *
 go_enter Tryz.func104, Tryz.ntmps104
 go_wp2_with fail
 refine (HF.out _).mono ?_
 rintro e w1 ⟨rfl, b1⟩
 have P1 := Lib.hid ((HZ.out.call b1).alloc (.cells #[.string ⟨#[115, 117, 98, 115, 116, 114]⟩, .int .i64 3, .int .i64 3, .int .u64 24, .int .u64 4, .int .u64 4, .func (.func 178) #[] #[]] 182))
 have B1 := Lib.hid (FnBox.made w1 (⟨⟨#[115, 117, 98, 115, 116, 114]⟩, 3, 3, 24, 4, 4, 178⟩ : SC.Fn))
 clear b1
 go_wp2_with fail
 refine (HT.out _).mono ?_
 rintro e w2 ⟨rfl, b2⟩
 have P2 := Lib.hid (P1.out.call b2)
 have B2 := Lib.hid (B1.out.later b2)
 clear b2
 go_wp2_with fail
 refine (HW.out _ P2.out.below).mono ?_
 rintro e w3 ⟨rfl, b3⟩
 have P3 := Lib.hid (P2.out.call b3)
 have B3 := Lib.hid (B2.out.later b3)
 clear b3
 obtain ⟨d0, d1, d2, d3, d4, d5, d6⟩ := B3.out.cells
 go_wp2_with fail
 refine (HS.out _ P3.out.below).mono ?_
 rintro e w4 ⟨rfl, b4⟩
 have P4 := Lib.hid (P3.out.call b4)
 have B4 := Lib.hid (B3.out.later b4)
 clear b4 d0 d1 d2 d3 d4 d5 d6
 obtain ⟨d0, d1, d2, d3, d4, d5, d6⟩ := B4.out.cells
 go_wp2_with fail
 refine (HDO.out _ P4.out.below).mono ?_
 rintro e w5 ⟨rfl, b5⟩
 have P5 := Lib.hid (P4.out.call b5)
 clear b5 d0 d1 d2 d3 d4 d5 d6
 obtain ⟨g0, g1, g2⟩ := P5.out.box.cells
 obtain ⟨f0, f1, f2⟩ := P5.out.box.free
 simp only [SC.zV] at g0 g1 g2
 go_wp2_with fail
 exact bodyPost_ret (v := .tuple #[.agg #[.int .i64 uk, .int .i64 ui, .string us], .int .i64 er]) (by simp [results, Tryz.results104, go_sem, g0, g1, g2]) rfl ⟨rfl, by first | exact set3_new P5.out.below _ _ _ | exact P5.out.below⟩
theorem callDoInstr (xs : List BV.V) (r : Ans) (H : Nat) (w : World) (hx : SC.look ⟨#[105, 110, 115, 116, 114]⟩ = some (⟨⟨#[105, 110, 115, 116, 114]⟩, 2, 2, 8, 8, 0, 179⟩ : SC.Fn)) (hA : Args w H xs) (ht : SC.takesB 2 2 xs.length = true) (hok : BV.allOk xs = true) (h3 : xs.length ≤ 3) (hk : ∀ j (h : j < xs.length), SC.KindOk ([(8 : Int), 8, 0][j]'(by simp; omega))) (hs : SC.okK [8, 8, 0] xs = true) (hn : SC.nulB xs = false)
  (hdo : ∀ W, Below w.heap.size w W → Calls Tryz.prog 179 #[.slice (some ⟨H, 0, none⟩) xs.length xs.length] W fun e w' => e = .returned (vA r) ∧ Below W.heap.size W w') :
  Calls Tryz.prog 104 #[.string ⟨#[105, 110, 115, 116, 114]⟩, .slice (some ⟨H, 0, none⟩) xs.length xs.length] w fun e w' => e = .returned (vA r) ∧ Below w.heap.size w w' := by
 have hm : xs.length ≤ 2000 := by omega
 have HZ := Lib.hid (zero_box w)
 have HF : Hid (∀ w, Calls Tryz.prog 140 #[.string ⟨#[105, 110, 115, 116, 114]⟩] w fun e w' => e = .returned (.tuple #[.agg #[.string ⟨#[105, 110, 115, 116, 114]⟩, .int .i64 2, .int .i64 2, .int .u64 8, .int .u64 8, .int .u64 0, .func (.func 179) #[] #[]], .bool true]) ∧ Below w.heap.size w w') := by
  intro w
  have h := SC.find_any ⟨#[105, 110, 115, 116, 114]⟩ w
  rw [hx] at h
  exact h
 have HT : Hid (∀ w, Calls Tryz.prog 141 #[.agg #[.string ⟨#[105, 110, 115, 116, 114]⟩, .int .i64 2, .int .i64 2, .int .u64 8, .int .u64 8, .int .u64 0, .func (.func 179) #[] #[]], .int .i64 xs.length] w fun e w' => e = .returned (.bool true) ∧ Below w.heap.size w w') := by
  intro w
  have h := SC.takes_any (⟨⟨#[105, 110, 115, 116, 114]⟩, 2, 2, 8, 8, 0, 179⟩ : SC.Fn) xs.length w
  rw [ht] at h
  exact h
 have HW : Hid (∀ W, Below w.heap.size w W → Calls Tryz.prog 138 #[.slice (some ⟨H, 0, none⟩) xs.length xs.length] W fun e w' => e = .returned (.bool false) ∧ Below W.heap.size W w') := by
  intro W hW
  have h := SC.wrong_any xs _ xs.length W (hA.later hW).row (by omega)
  rw [hok] at h
  exact h
 have HS : Hid (∀ W, Below w.heap.size w W → Calls Tryz.prog 139 #[.agg #[.int .u64 8, .int .u64 8, .int .u64 0], .slice (some ⟨H, 0, none⟩) xs.length xs.length] W fun e w' => e = .returned (.tuple #[.bool false, .int .i64 0]) ∧ Below W.heap.size W w') := by
  intro W hW
  have h := SC.strict_any 8 8 0 xs _ xs.length W (hA.later hW).row h3 hk hok
  unfold SC.stN SC.stE at h
  rw [hs, hn] at h
  exact h
 have HDO := Lib.hid hdo
 have hneq : ∀ w, (binOp .neq 179 (.agg #[.int .u64 8, .int .u64 8, .int .u64 0]) (.agg #[.int .u64 0, .int .u64 0, .int .u64 0])).run Tryz.prog w = .ok (.bool true) w := fun _ => by kernel_rfl
 obtain ⟨er, uk, ui, us⟩ := r
 unfold vA at *
 simp only at HDO ⊢
 clear hx ht hA hok hm hdo hk h3 hs hn
 generalize xs.length = n at *
 go_enter Tryz.func104, Tryz.ntmps104
 go_wp2_with fail
 refine (HF.out _).mono ?_
 rintro e w1 ⟨rfl, b1⟩
 have P1 := Lib.hid ((HZ.out.call b1).alloc (.cells #[.string ⟨#[105, 110, 115, 116, 114]⟩, .int .i64 2, .int .i64 2, .int .u64 8, .int .u64 8, .int .u64 0, .func (.func 179) #[] #[]] 182))
 have B1 := Lib.hid (FnBox.made w1 (⟨⟨#[105, 110, 115, 116, 114]⟩, 2, 2, 8, 8, 0, 179⟩ : SC.Fn))
 clear b1
 go_wp2_with fail
 refine (HT.out _).mono ?_
 rintro e w2 ⟨rfl, b2⟩
 have P2 := Lib.hid (P1.out.call b2)
 have B2 := Lib.hid (B1.out.later b2)
 clear b2
 go_wp2_with fail
 refine (HW.out _ P2.out.below).mono ?_
 rintro e w3 ⟨rfl, b3⟩
 have P3 := Lib.hid (P2.out.call b3)
 have B3 := Lib.hid (B2.out.later b3)
 clear b3
 obtain ⟨d0, d1, d2, d3, d4, d5, d6⟩ := B3.out.cells
 go_wp2_with fail
 refine (HS.out _ P3.out.below).mono ?_
 rintro e w4 ⟨rfl, b4⟩
 have P4 := Lib.hid (P3.out.call b4)
 have B4 := Lib.hid (B3.out.later b4)
 clear b4 d0 d1 d2 d3 d4 d5 d6
 obtain ⟨d0, d1, d2, d3, d4, d5, d6⟩ := B4.out.cells
 go_wp2_with fail
 refine (HDO.out _ P4.out.below).mono ?_
 rintro e w5 ⟨rfl, b5⟩
 have P5 := Lib.hid (P4.out.call b5)
 clear b5 d0 d1 d2 d3 d4 d5 d6
 obtain ⟨g0, g1, g2⟩ := P5.out.box.cells
 obtain ⟨f0, f1, f2⟩ := P5.out.box.free
 simp only [SC.zV] at g0 g1 g2
 go_wp2_with fail
 exact bodyPost_ret (v := .tuple #[.agg #[.int .i64 uk, .int .i64 ui, .string us], .int .i64 er]) (by simp [results, Tryz.results104, go_sem, g0, g1, g2]) rfl ⟨rfl, by first | exact set3_new P5.out.below _ _ _ | exact P5.out.below⟩
theorem callDoReplace (xs : List BV.V) (r : Ans) (H : Nat) (w : World) (hx : SC.look ⟨#[114, 101, 112, 108, 97, 99, 101]⟩ = some (⟨⟨#[114, 101, 112, 108, 97, 99, 101]⟩, 3, 3, 8, 8, 8, 180⟩ : SC.Fn)) (hA : Args w H xs) (ht : SC.takesB 3 3 xs.length = true) (hok : BV.allOk xs = true) (h3 : xs.length ≤ 3) (hk : ∀ j (h : j < xs.length), SC.KindOk ([(8 : Int), 8, 8][j]'(by simp; omega))) (hs : SC.okK [8, 8, 8] xs = true) (hn : SC.nulB xs = false)
  (hdo : ∀ W, Below w.heap.size w W → Calls Tryz.prog 180 #[.slice (some ⟨H, 0, none⟩) xs.length xs.length] W fun e w' => e = .returned (vA r) ∧ Below W.heap.size W w') :
  Calls Tryz.prog 104 #[.string ⟨#[114, 101, 112, 108, 97, 99, 101]⟩, .slice (some ⟨H, 0, none⟩) xs.length xs.length] w fun e w' => e = .returned (vA r) ∧ Below w.heap.size w w' := by
 have hm : xs.length ≤ 2000 := by omega
 have HZ := Lib.hid (zero_box w)
 have HF : Hid (∀ w, Calls Tryz.prog 140 #[.string ⟨#[114, 101, 112, 108, 97, 99, 101]⟩] w fun e w' => e = .returned (.tuple #[.agg #[.string ⟨#[114, 101, 112, 108, 97, 99, 101]⟩, .int .i64 3, .int .i64 3, .int .u64 8, .int .u64 8, .int .u64 8, .func (.func 180) #[] #[]], .bool true]) ∧ Below w.heap.size w w') := by
  intro w
  have h := SC.find_any ⟨#[114, 101, 112, 108, 97, 99, 101]⟩ w
  rw [hx] at h
  exact h
 have HT : Hid (∀ w, Calls Tryz.prog 141 #[.agg #[.string ⟨#[114, 101, 112, 108, 97, 99, 101]⟩, .int .i64 3, .int .i64 3, .int .u64 8, .int .u64 8, .int .u64 8, .func (.func 180) #[] #[]], .int .i64 xs.length] w fun e w' => e = .returned (.bool true) ∧ Below w.heap.size w w') := by
  intro w
  have h := SC.takes_any (⟨⟨#[114, 101, 112, 108, 97, 99, 101]⟩, 3, 3, 8, 8, 8, 180⟩ : SC.Fn) xs.length w
  rw [ht] at h
  exact h
 have HW : Hid (∀ W, Below w.heap.size w W → Calls Tryz.prog 138 #[.slice (some ⟨H, 0, none⟩) xs.length xs.length] W fun e w' => e = .returned (.bool false) ∧ Below W.heap.size W w') := by
  intro W hW
  have h := SC.wrong_any xs _ xs.length W (hA.later hW).row (by omega)
  rw [hok] at h
  exact h
 have HS : Hid (∀ W, Below w.heap.size w W → Calls Tryz.prog 139 #[.agg #[.int .u64 8, .int .u64 8, .int .u64 8], .slice (some ⟨H, 0, none⟩) xs.length xs.length] W fun e w' => e = .returned (.tuple #[.bool false, .int .i64 0]) ∧ Below W.heap.size W w') := by
  intro W hW
  have h := SC.strict_any 8 8 8 xs _ xs.length W (hA.later hW).row h3 hk hok
  unfold SC.stN SC.stE at h
  rw [hs, hn] at h
  exact h
 have HDO := Lib.hid hdo
 have hneq : ∀ w, (binOp .neq 179 (.agg #[.int .u64 8, .int .u64 8, .int .u64 8]) (.agg #[.int .u64 0, .int .u64 0, .int .u64 0])).run Tryz.prog w = .ok (.bool true) w := fun _ => by kernel_rfl
 obtain ⟨er, uk, ui, us⟩ := r
 unfold vA at *
 simp only at HDO ⊢
 clear hx ht hA hok hm hdo hk h3 hs hn
 generalize xs.length = n at *
 go_enter Tryz.func104, Tryz.ntmps104
 go_wp2_with fail
 refine (HF.out _).mono ?_
 rintro e w1 ⟨rfl, b1⟩
 have P1 := Lib.hid ((HZ.out.call b1).alloc (.cells #[.string ⟨#[114, 101, 112, 108, 97, 99, 101]⟩, .int .i64 3, .int .i64 3, .int .u64 8, .int .u64 8, .int .u64 8, .func (.func 180) #[] #[]] 182))
 have B1 := Lib.hid (FnBox.made w1 (⟨⟨#[114, 101, 112, 108, 97, 99, 101]⟩, 3, 3, 8, 8, 8, 180⟩ : SC.Fn))
 clear b1
 go_wp2_with fail
 refine (HT.out _).mono ?_
 rintro e w2 ⟨rfl, b2⟩
 have P2 := Lib.hid (P1.out.call b2)
 have B2 := Lib.hid (B1.out.later b2)
 clear b2
 go_wp2_with fail
 refine (HW.out _ P2.out.below).mono ?_
 rintro e w3 ⟨rfl, b3⟩
 have P3 := Lib.hid (P2.out.call b3)
 have B3 := Lib.hid (B2.out.later b3)
 clear b3
 obtain ⟨d0, d1, d2, d3, d4, d5, d6⟩ := B3.out.cells
 go_wp2_with fail
 refine (HS.out _ P3.out.below).mono ?_
 rintro e w4 ⟨rfl, b4⟩
 have P4 := Lib.hid (P3.out.call b4)
 have B4 := Lib.hid (B3.out.later b4)
 clear b4 d0 d1 d2 d3 d4 d5 d6
 obtain ⟨d0, d1, d2, d3, d4, d5, d6⟩ := B4.out.cells
 go_wp2_with fail
 refine (HDO.out _ P4.out.below).mono ?_
 rintro e w5 ⟨rfl, b5⟩
 have P5 := Lib.hid (P4.out.call b5)
 clear b5 d0 d1 d2 d3 d4 d5 d6
 obtain ⟨g0, g1, g2⟩ := P5.out.box.cells
 obtain ⟨f0, f1, f2⟩ := P5.out.box.free
 simp only [SC.zV] at g0 g1 g2
 go_wp2_with fail
 exact bodyPost_ret (v := .tuple #[.agg #[.int .i64 uk, .int .i64 ui, .string us], .int .i64 er]) (by simp [results, Tryz.results104, go_sem, g0, g1, g2]) rfl ⟨rfl, by first | exact set3_new P5.out.below _ _ _ | exact P5.out.below⟩
end Go.Proofs.YtkigddankkoahaaGreatDoor
