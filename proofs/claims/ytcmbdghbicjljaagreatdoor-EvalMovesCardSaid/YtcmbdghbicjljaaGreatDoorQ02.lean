/- Plain facts on numbers of 64 bits: when a sum, a product, a quotient and what is left of it fit, and how that is told by numbers that went round. No condition. -/
import Derived.Test.YtcmbdghbicjljaaGreatDoorQ01
import Derived.IntWalk
import Derived.Deep.QuietTactic
import Derived.BigQuiet
namespace Go.Proofs.YtcmbdghbicjljaaGreatDoor.BV
end Go.Proofs.YtcmbdghbicjljaaGreatDoor.BV
namespace Go.Proofs.YtcmbdghbicjljaaGreatDoor.SC
open Go.Proofs.YtcmbdghbicjljaaGreatDoor.BV
open Go.RowKit
def okN (n : Int) : Bool := decide (-9223372036854775808 ≤ n ∧ n ≤ 9223372036854775807)
def opk (op : ByteArray) : Nat := if op.toList == [43] then 1 else if op.toList == [45] then 2 else if op.toList == [42] then 3 else if op.toList == [47] then 4 else if op.toList == [37] then 5 else 0
def numX (p : Nat) (a b : Int) : Int := if p = 1 then a + b else if p = 2 then a - b else if p = 3 then a * b else if p = 4 then a.tdiv b else a.tmod b
def numE (p : Nat) (a b : Int) : Int := if (p = 4 ∨ p = 5) ∧ b = 0 then 31 else if okN (numX p a b) then 0 else 30
def numR (p : Nat) (a b : Int) : Int := if numE p a b = 0 then numX p a b else 0
def In64 (n : Int) : Prop := -9223372036854775808 ≤ n ∧ n ≤ 9223372036854775807
theorem okN_iff {n : Int} : okN n = true ↔ In64 n := by unfold okN In64; simp
theorem okN_no {n : Int} : okN n = false ↔ ¬ In64 n := by rw [← okN_iff]; simp
def fitR (n : Int) (b : Bool) : Int := if b then n else 0
def fitE (b : Bool) : Int := if b then 0 else 30
theorem numE_at {p : Nat} {a b : Int} (h : ¬ ((p = 4 ∨ p = 5) ∧ b = 0)) : numE p a b = fitE (okN (numX p a b)) := by
  unfold numE fitE
  rw [if_neg h]
theorem num_fit {p : Nat} {a b n : Int} (h : ¬ ((p = 4 ∨ p = 5) ∧ b = 0)) (hn : In64 (numX p a b) → n = numX p a b) : numR p a b = fitR n (okN (numX p a b)) ∧ numE p a b = fitE (okN (numX p a b)) := by
  refine ⟨?_, numE_at h⟩
  unfold numR
  rw [numE_at h]
  unfold fitR fitE
  cases hk : okN (numX p a b)
  · rfl
  · simp only [if_true]
    rw [hn (okN_iff.1 hk)]
theorem num_lo {p : Nat} {a b n : Int} (hp : p = 1 ∨ p = 2 ∨ p = 3) (hn : In64 (numX p a b) → n = numX p a b) : numR p a b = fitR n (okN (numX p a b)) ∧ numE p a b = fitE (okN (numX p a b)) :=
  num_fit (fun h => by omega) hn
theorem num_hi {p : Nat} {a b n : Int} (hb : ¬ b = 0) (hn : In64 (numX p a b) → n = numX p a b) : numR p a b = fitR n (okN (numX p a b)) ∧ numE p a b = fitE (okN (numX p a b)) :=
  num_fit (fun h => hb h.2) hn
theorem num_zero {p : Nat} {a : Int} (hp : p = 4 ∨ p = 5) : numR p a 0 = 0 ∧ numE p a 0 = 31 := by
  have h : numE p a 0 = 31 := by unfold numE; rw [if_pos ⟨hp, rfl⟩]
  refine ⟨?_, h⟩
  unfold numR
  rw [h]
  rfl
theorem wrap_cases (n : Int) : ∃ t : Int, wrap64 n = n + t * 18446744073709551616 ∧ In64 (wrap64 n) ∧ (In64 n → t = 0) := by
  unfold wrap64 In64
  refine ⟨-((n + 9223372036854775808) / 18446744073709551616), ?_, ?_, ?_⟩ <;> omega
theorem wrap_id {n : Int} (h : In64 n) : wrap64 n = n := by unfold wrap64; unfold In64 at h; omega
theorem add_tell {a b : Int} (ha : In64 a) (hb : In64 b) : (decide (a < wrap64 (a + b)) == decide (0 < b)) = okN (a + b) ∧ (decide (0 ≤ b) == decide (a ≤ wrap64 (a + b))) = okN (a + b) := by
  obtain ⟨t, h1, h2, h3⟩ := wrap_cases (a + b)
  rw [h1] at h2 ⊢
  unfold okN
  unfold In64 at *
  constructor <;> · rw [Bool.eq_iff_iff]; simp only [beq_iff_eq, decide_eq_decide, decide_eq_true_eq]; omega
theorem sub_tell {a b : Int} (ha : In64 a) (hb : In64 b) : (decide (wrap64 (a - b) < a) == decide (0 < b)) = okN (a - b) ∧ (decide (0 ≤ b) == decide (wrap64 (a - b) ≤ a)) = okN (a - b) := by
  obtain ⟨t, h1, h2, h3⟩ := wrap_cases (a - b)
  rw [h1] at h2 ⊢
  unfold okN
  unfold In64 at *
  constructor <;> · rw [Bool.eq_iff_iff]; simp only [beq_iff_eq, decide_eq_decide, decide_eq_true_eq]; omega
def atEnd (a b : Int) : Bool := a == -9223372036854775808 && b == -1
theorem tmod_lt {a b : Int} (hb : In64 b) (h0 : ¬ b = 0) : In64 (a.tmod b) ∧ (a.tmod b).natAbs < b.natAbs := by
  have h : (a.tmod b).natAbs < b.natAbs := by
    rw [Int.natAbs_tmod]
    exact Nat.mod_lt _ (by omega)
  unfold In64 at *
  exact ⟨by omega, h⟩
theorem tdiv_tell {a b : Int} (ha : In64 a) (h0 : ¬ b = 0) : okN (a.tdiv b) = !atEnd a b := by
  have h : (a.tdiv b).natAbs = a.natAbs / b.natAbs := Int.natAbs_tdiv a b
  by_cases hb1 : b = -1
  · subst hb1
    rw [Int.tdiv_neg, Int.tdiv_one]
    unfold okN atEnd
    unfold In64 at ha
    rw [Bool.eq_iff_iff]
    simp
    omega
  · have e : atEnd a b = false := by unfold atEnd; simp; intro _; exact hb1
    rw [e]
    rw [show okN (a.tdiv b) = true from ?_]; rfl
    rw [okN_iff]
    unfold In64 at *
    by_cases hb2 : b = 1
    · subst hb2; rw [Int.tdiv_one]; exact ha
    · have h2 : 2 ≤ b.natAbs := by omega
      have h3 : a.natAbs / b.natAbs ≤ a.natAbs / 2 := Nat.div_le_div_left h2 (by omega)
      omega
theorem mul_tell {a b : Int} (ha : In64 a) (hb : In64 b) (h0 : ¬ b = 0) : (wrap64 ((wrap64 (a * b)).tdiv b) == a && !atEnd a b) = okN (a * b) := by
  obtain ⟨t, h1, h2, h3⟩ := wrap_cases (a * b)
  by_cases hok : In64 (a * b)
  · rw [okN_iff.2 hok, wrap_id hok, Int.mul_tdiv_cancel _ h0, wrap_id ha]
    have e : atEnd a b = false := by
      unfold atEnd
      rw [Bool.and_eq_false_iff]
      by_cases h : a = -9223372036854775808
      · right
        simp
        rintro rfl
        subst h
        unfold In64 at hok
        omega
      · left
        simpa using h
    rw [e]
    simp
  · rw [okN_no.2 hok, Bool.and_eq_false_iff]
    by_cases he : atEnd a b = true
    · right; rw [he]; rfl
    · left
      have he' : atEnd a b = false := by simpa using he
      simp only [beq_eq_false_iff_ne, ne_eq]
      intro hq
      have hd := tdiv_tell (a := wrap64 (a * b)) (b := b) h2 h0
      by_cases hn : atEnd (wrap64 (a * b)) b = true
      · unfold atEnd at hn
        simp at hn
        obtain ⟨hn1, rfl⟩ := hn
        rw [hn1] at hq
        rw [show ((-9223372036854775808 : Int).tdiv (-1)) = 9223372036854775808 by decide] at hq
        rw [show wrap64 9223372036854775808 = -9223372036854775808 by unfold wrap64; decide] at hq
        unfold atEnd at he'
        rw [← hq] at he'
        simp at he'
      · have hn' : atEnd (wrap64 (a * b)) b = false := by simpa using hn
        rw [hn'] at hd
        rw [wrap_id (okN_iff.1 (by rw [hd]; rfl))] at hq
        have h4 := Int.mul_tdiv_add_tmod (wrap64 (a * b)) b
        have h5 := (tmod_lt (a := wrap64 (a * b)) hb h0).2
        generalize (wrap64 (a * b)).tmod b = r at *
        rw [hq, Int.mul_comm b a, h1] at h4
        generalize a * b = p at *
        unfold In64 at *
        omega
theorem tmod_ok {a b : Int} (hb : In64 b) (h0 : ¬ b = 0) : okN (a.tmod b) = true := okN_iff.2 (tmod_lt hb h0).1
end Go.Proofs.YtcmbdghbicjljaaGreatDoor.SC
namespace Go.Proofs.YtcmbdghbicjljaaGreatDoor.BV
end Go.Proofs.YtcmbdghbicjljaaGreatDoor.BV
namespace Go.Proofs.YtcmbdghbicjljaaGreatDoor.SC
open Go.Proofs.YtcmbdghbicjljaaGreatDoor.BV
open Go.RowKit
theorem ret_bool {a b : Bool} (h : a = b) : Ending.returned (.bool a) = .returned (.bool b) := by rw [h]
theorem bad_at {xs : List V} {k : Nat} {r : Int} (h : k < xs.length) (hx : xs[k].chk = r) (hr : ¬ r = 0) : allOk xs = false := by
  unfold allOk
  rw [List.all_eq_false]
  exact ⟨xs[k], List.getElem_mem h, by rw [hx]; simpa using hr⟩
theorem good_all {xs : List V} {n : Nat} (hn : n = xs.length) (ha : allOk (xs.take n) = true) : allOk xs = true := by
  subst hn
  rwa [List.take_length] at ha
theorem bad1_any (k i : Int) (s : ByteArray) (w : World) :
    Calls Tryz.prog 115 #[.agg #[.int .i64 k, .int .i64 i, .string s]] w fun e w' => e = .returned (.bool (chkI k i s != 0)) ∧ Below w.heap.size w w' := by
  have HC := check_any k i s
  generalize chkI k i s = r at *
  go_enter Tryz.func115, Tryz.ntmps115
  go_wp2_with (go_at_call 99; refine (HC _).mono ?_; rintro e w' ⟨rfl, hb⟩)
  go_ret
  exact ⟨rfl, ((Below.refl _ _).alloc (Nat.le_refl _) _).trans (hb.mono (by simp))⟩
def IdxPost (xs : List V) (w : World) (e : Ending) (w' : World) : Prop := ∃ n : Int, e = .returned (.int .i64 n) ∧ (0 ≤ n ↔ allOk xs = false) ∧ Below w.heap.size w w'
set_option maxHeartbeats 400000 in
theorem idx_any (xs : List V) (A : Option Addr) (c : Nat) (w : World) (hr : RowAt w w.heap.size A xs) (hm : xs.length ≤ 9223372036854775807) :
    Calls Tryz.prog 146 #[.slice A xs.length c, .func (.func 115) #[] #[]] w (IdxPost xs w) := by
  obtain ⟨n, hn⟩ : ∃ n, n = xs.length := ⟨_, rfl⟩
  have HN := Lib.hid hn
  rw [← hn] at hm ⊢
  clear hn
  have HR := Lib.hid hr
  clear hr
  go_enter Tryz.func146, Tryz.ntmps146
  go_wp2_with fail
  go_loopw [8] (fun i wr => ∃ k : Nat, k ≤ n ∧ i = .int .i64 k ∧ Below w.heap.size w wr ∧ Hid (allOk (xs.take k) = true)) (fun i _ => n - (intOf i).toNat)
  case atStart => exact ⟨0, Nat.zero_le _, rfl, Below.refl _ _, rfl⟩
  case round =>
    obtain ⟨k, hk, rfl, hb, hall⟩ := hrel
    by_cases hlt : k < n
    · have hkx : k < xs.length := by rw [← HN.out]; exact hlt
      obtain ⟨b, off, hA, hbl, hc⟩ := HR.out (by omega)
      subst hA
      obtain ⟨c1, c2, c3⟩ := hc k hkx
      have d1 := (hb.cell (p := ⟨b, _, none⟩) hbl).trans c1
      have d2 := (hb.cell (p := ⟨b, _, none⟩) hbl).trans c2
      have d3 := (hb.cell (p := ⟨b, _, none⟩) hbl).trans c3
      clear c1 c2 c3 hc
      have hcall := bad1_any xs[k].k xs[k].i xs[k].s
      obtain ⟨r, hr⟩ : ∃ r, r = chkI xs[k].k xs[k].i xs[k].s := ⟨_, rfl⟩
      rw [← hr] at hcall
      have HX : Hid (xs[k].chk = r) := hr.symm
      clear hr
      generalize xs[k].k = vk at *
      generalize xs[k].i = vi at *
      generalize xs[k].s = vs at *
      by_cases h0 : r = 0
      · subst h0
        simp only [bne_self_eq_false] at hcall
        go_wp2_with (go_at_call 115; refine (hcall _).mono ?_; rintro e w1 ⟨rfl, hb1⟩)
        go_roundw
        case rel => exact ⟨k + 1, by omega, by go_num, hb.trans (hb1.mono (by have := hb.size; omega)), allOk_snoc hkx HX.out hall.out⟩
        case measure => simp [intOf]; omega
      · have h1 : (r != 0) = true := by simpa using h0
        rw [h1] at hcall
        have H0 := Lib.hid h0
        clear h0
        go_wp2_with (go_at_call 115; refine (hcall _).mono ?_; rintro e w1 ⟨rfl, hb1⟩)
        go_ret
        exact ⟨_, rfl, ⟨fun _ => bad_at hkx HX.out H0.out, fun _ => by omega⟩, hb.trans (hb1.mono (by have := hb.size; omega))⟩
    · obtain rfl : k = n := by omega
      go_wp2_with fail
      go_ret
      exact ⟨_, rfl, ⟨fun h => by omega, fun h => by rw [good_all HN.out hall.out] at h; cases h⟩, hb⟩
theorem wrong_any (xs : List V) (A : Option Addr) (c : Nat) (w : World) (hr : RowAt w w.heap.size A xs) (hm : xs.length ≤ 9223372036854775807) :
    Calls Tryz.prog 85 #[.slice A xs.length c] w fun e w' => e = .returned (.bool (!allOk xs)) ∧ Below w.heap.size w w' := by
  have hi := idx_any xs A c w hr hm
  have h35 : Calls Tryz.prog 114 #[.slice A xs.length c, .func (.func 115) #[] #[]] w fun e w' => e = .returned (.bool (!allOk xs)) ∧ Below w.heap.size w w' := by
    generalize xs.length = l at *
    clear hr hm
    go_enter Tryz.func114, Tryz.ntmps114
    go_wp2_with (go_at_call 146; refine hi.mono ?_; rintro e w1 ⟨n, rfl, hn, hb⟩; have HN := Lib.hid hn; clear hn)
    go_ret
    refine ⟨ret_bool ?_, hb⟩
    have := HN.out
    cases h : allOk xs
    · rw [h] at this; simp at this ⊢; exact this
    · rw [h] at this; simp at this ⊢; omega
  generalize xs.length = l at *
  clear hr hm hi
  go_enter Tryz.func85, Tryz.ntmps85
  go_wp2_with (go_at_call 114; refine h35.mono ?_; rintro e w1 ⟨rfl, hb⟩)
  go_ret
  exact ⟨rfl, hb⟩
end Go.Proofs.YtcmbdghbicjljaaGreatDoor.SC
namespace Go.Proofs.YtcmbdghbicjljaaGreatDoor.BV
end Go.Proofs.YtcmbdghbicjljaaGreatDoor.BV
namespace Go.Proofs.YtcmbdghbicjljaaGreatDoor.SC
open Go.Proofs.YtcmbdghbicjljaaGreatDoor.BV
open Go.RowKit
def fitsK (m k : Int) : Bool := (m == 4 && k == 2) || (m == 8 && k == 3) || (m == 24 && (k == 3 || k == 4))
def okK (ks : List Int) (xs : List V) : Bool := (ks.zip xs).all fun p => p.2.k == 0 || fitsK p.1 p.2.k
def nulB (xs : List V) : Bool := xs.any fun v => v.k == 0
def stE (ks : List Int) (xs : List V) : Int := if okK ks xs then 0 else 20
def stN (ks : List Int) (xs : List V) : Bool := okK ks xs && nulB xs
theorem zip_take_right {α β : Type} : ∀ (j : Nat) (l : List α) (m : List β), l.zip (m.take j) = (l.zip m).take j
  | 0, _, _ => by simp
  | _ + 1, [], _ => by simp
  | _ + 1, _ :: _, [] => by simp
  | j + 1, a :: l, b :: m => by simp [zip_take_right j l m]
theorem okK_snoc {ks : List Int} {xs : List V} {k : Nat} (h1 : k < ks.length) (h2 : k < xs.length) : okK ks (xs.take (k + 1)) = (okK ks (xs.take k) && (xs[k].k == 0 || fitsK ks[k] xs[k].k)) := by
  unfold okK
  rw [zip_take_right, zip_take_right]
  have hz : k < (ks.zip xs).length := by simp; omega
  rw [List.take_succ_eq_append_getElem hz, List.all_append]
  simp
theorem okK_no {ks : List Int} {xs : List V} {k : Nat} (h1 : k < ks.length) (h2 : k < xs.length) (h : (xs[k].k == 0 || fitsK ks[k] xs[k].k) = false) : okK ks xs = false := by
  unfold okK
  rw [List.all_eq_false]
  exact ⟨(ks[k], xs[k]), by rw [List.mem_iff_getElem]; exact ⟨k, by simp; omega, by simp⟩, by simpa using h⟩
theorem nulB_snoc {xs : List V} {k : Nat} (h : k < xs.length) : nulB (xs.take (k + 1)) = (nulB (xs.take k) || xs[k].k == 0) := by
  unfold nulB
  rw [List.take_succ_eq_append_getElem h, List.any_append]
  simp
theorem kinds_of {v : V} (h : v.chk = 0) : v.k = 0 ∨ v.k = 1 ∨ v.k = 2 ∨ v.k = 3 ∨ v.k = 4 := by
  unfold V.chk chkI mayB at h
  by_cases h0 : v.k = 0
  · omega
  by_cases h1 : v.k = 1
  · omega
  by_cases h2 : v.k = 2
  · omega
  by_cases h3 : v.k = 3
  · omega
  by_cases h4 : v.k = 4
  · omega
  simp [h0, h1, h2, h3, h4] at h
theorem st_bad {ks : List Int} {xs : List V} (h : okK ks xs = false) : Ending.returned (.tuple #[.bool false, .int .i64 20]) = .returned (.tuple #[.bool (stN ks xs), .int .i64 (stE ks xs)]) := by
  unfold stN stE; rw [h]; rfl
theorem st_good {ks : List Int} {xs : List V} {n : Nat} {b : Bool} (hn : n = xs.length) (h : okK ks (xs.take n) = true) (h' : b = nulB (xs.take n)) : Ending.returned (.tuple #[.bool b, .int .i64 0]) = .returned (.tuple #[.bool (stN ks xs), .int .i64 (stE ks xs)]) := by
  subst hn
  rw [List.take_length] at h h'
  unfold stN stE; rw [h, h']; rfl
theorem below_drewN {B : Nat} {w w' : World} (h : Below B w w') (n : Nat) : Below B w (w'.drewN n) := ⟨h.os, h.tape, h.output, h.size, h.block⟩
theorem box_below {w w' : World} {o : Obj} (h : Below (w.heap.size + 1) (w.alloc o) w') : Below w.heap.size w w' := ((Below.refl _ w).alloc (Nat.le_refl _) o).trans (h.mono (by omega))
def KindOk (m : Int) : Prop := m = 4 ∨ m = 8 ∨ m = 24
set_option maxRecDepth 100000 in
set_option maxHeartbeats 4000000 in
theorem strict_any (k0 k1 k2 : Int) (xs : List V) (A : Option Addr) (c : Nat) (w : World) (hr : RowAt w w.heap.size A xs) (h3 : xs.length ≤ 3) (hk : ∀ j (h : j < xs.length), KindOk ([k0, k1, k2][j]'(by simp; omega))) (hok : allOk xs = true) :
    Calls Tryz.prog 86 #[.agg #[.int .u64 k0, .int .u64 k1, .int .u64 k2], .slice A xs.length c] w fun e w' => e = .returned (.tuple #[.bool (stN [k0, k1, k2] xs), .int .i64 (stE [k0, k1, k2] xs)]) ∧ Below w.heap.size w w' := by
  obtain ⟨n, hn⟩ : ∃ n, n = xs.length := ⟨_, rfl⟩
  have HN := Lib.hid hn
  rw [← hn] at h3 ⊢
  have HK := Lib.hid hk
  have HO := Lib.hid hok
  have HR := Lib.hid hr
  clear hr hn hk hok
  go_enter Tryz.func86, Tryz.ntmps86
  go_wp2_with fail
  go_loopw [10, 4] (fun i s wr => ∃ (k : Nat) (b : Bool), k ≤ n ∧ i = .int .i64 k ∧ s = .bool b ∧ Hid (Below (w.heap.size + 1) (w.alloc (.cells #[.int .u64 k0, .int .u64 k1, .int .u64 k2] 94)) wr) ∧ Hid (okK [k0, k1, k2] (xs.take k) = true ∧ b = nulB (xs.take k))) (fun i _ _ => n - (intOf i).toNat)
  case atStart => exact ⟨0, false, Nat.zero_le _, rfl, rfl, by have := Below.refl (w.heap.size + 1) (w.alloc (.cells #[.int .u64 k0, .int .u64 k1, .int .u64 k2] 94)); exact this, ⟨by unfold okK; simp, rfl⟩⟩
  case round =>
    obtain ⟨k, b, hk, rfl, rfl, HB, HI⟩ := hrel
    by_cases hlt : k < n
    · have hkx : k < xs.length := by rw [← HN.out]; exact hlt
      obtain ⟨g, off, hA, hbl, hc⟩ := HR.out (by omega)
      subst hA
      obtain ⟨c1, c2, c3⟩ := hc k hkx
      have hm := HK.out k hkx
      have hv := kinds_of (show xs[k].chk = 0 by have := HO.out; unfold allOk at this; rw [List.all_eq_true] at this; simpa using this _ (List.getElem_mem hkx))
      have hsn := okK_snoc (ks := [k0, k1, k2]) (xs := xs) (k := k) (by simp; omega) hkx
      have hno := okK_no (ks := [k0, k1, k2]) (xs := xs) (k := k) (by simp; omega) hkx
      have hnu := nulB_snoc hkx
      have hs1 : (w.alloc (.cells #[.int .u64 k0, .int .u64 k1, .int .u64 k2] 94)).heap.size = w.heap.size + 1 := by simp
      have ce : ∀ o, (w.alloc (.cells #[.int .u64 k0, .int .u64 k1, .int .u64 k2] 94)).cell? ⟨g, o, none⟩ = w.cell? ⟨g, o, none⟩ := fun o => World.cell?_alloc_lt _ _ _ hbl
      have d1 := ((HB.out.cell (p := ⟨g, _, none⟩) (by show g < _; omega)).trans (ce _)).trans c1
      have d2 := ((HB.out.cell (p := ⟨g, _, none⟩) (by show g < _; omega)).trans (ce _)).trans c2
      have d3 := ((HB.out.cell (p := ⟨g, _, none⟩) (by show g < _; omega)).trans (ce _)).trans c3
      have hnb : (w.alloc (.cells #[.int .u64 k0, .int .u64 k1, .int .u64 k2] 94)).heap[w.heap.size]? = some (.cells #[.int .u64 k0, .int .u64 k1, .int .u64 k2] 94 (0, 0)) := heap_alloc_new w _
      have d4 : wr.cell? ⟨w.heap.size, k, none⟩ = some (.int .u64 ([k0, k1, k2][k]'(by simp; omega))) := by
        rw [HB.out.cell (p := ⟨w.heap.size, k, none⟩) (by show w.heap.size < _; omega), Lib.cell_of_heap hnb]
        have : k = 0 ∨ k = 1 ∨ k = 2 := by omega
        rcases this with h | h | h <;> (subst h; rfl)
      have hsz : w.heap.size < wr.heap.size := by have := HB.out.size; omega
      clear c1 c2 c3 hc ce hs1 hnb
      generalize xs[k].k = vk at *
      generalize xs[k].i = vi at *
      generalize xs[k].s = vs at *
      generalize [k0, k1, k2][k]'(by simp; omega) = m at *
      have HS := Lib.hid hsn
      have HX := Lib.hid hno
      have HU := Lib.hid hnu
      clear hsn hno hnu
      rcases hv with rfl | hv
      · go_wp2_with fail
        go_roundw
        case rel => exact ⟨k + 1, true, by omega, by go_num, rfl, (HB.out.alloc (by omega) _), ⟨by rw [HS.out, HI.out.1]; rfl, by rw [HU.out]; simp⟩⟩
        case measure => simp [intOf]; omega
      · have hv0 : (vk == 0) = false := by simp; omega
        rcases hm with rfl | rfl | rfl <;> rcases hv with rfl | rfl | rfl | rfl
        all_goals
          clear hv0
          go_wp2_with fail
          go_quiet (fail)
          go_wp2_with fail
          first
          | (go_ret2; exact ⟨st_bad (HX.out (by rfl)), box_below (below_drewN (HB.out.alloc (by omega) _) _)⟩)
          | (go_roundw
             case rel => exact ⟨k + 1, b, by omega, by go_num, rfl, (below_drewN (HB.out.alloc (by omega) _) _), ⟨by rw [HS.out, HI.out.1]; rfl, by rw [HU.out, ← HI.out.2]; simp⟩⟩
             case measure => simp [intOf]; omega)
    · obtain rfl : k = n := by omega
      go_wp2_with fail
      go_ret2
      exact ⟨st_good HN.out HI.out.1 HI.out.2, box_below HB.out⟩
end Go.Proofs.YtcmbdghbicjljaaGreatDoor.SC
namespace Go.Proofs.YtcmbdghbicjljaaGreatDoor.BV
end Go.Proofs.YtcmbdghbicjljaaGreatDoor.BV
namespace Go.Proofs.YtcmbdghbicjljaaGreatDoor.SC
open Go.Proofs.YtcmbdghbicjljaaGreatDoor.BV
open Go.RowKit
structure Fn where
  nm : ByteArray
  lo : Int
  hi : Int
  k0 : Int
  k1 : Int
  k2 : Int
  f : Nat
def Fn.cells (x : Fn) : List Value := [.string x.nm, .int .i64 x.lo, .int .i64 x.hi, .int .u64 x.k0, .int .u64 x.k1, .int .u64 x.k2, .func (.func x.f) #[] #[]]
def fns : List Fn := [⟨⟨#[99, 111, 97, 108, 101, 115, 99, 101]⟩, 1, (-1), 0, 0, 0, 147⟩,
  ⟨⟨#[110, 117, 108, 108, 105, 102]⟩, 2, 2, 0, 0, 0, 148⟩,
  ⟨⟨#[97, 98, 115]⟩, 1, 1, 4, 0, 0, 149⟩,
  ⟨⟨#[115, 105, 103, 110]⟩, 1, 1, 4, 0, 0, 150⟩,
  ⟨⟨#[108, 101, 110, 103, 116, 104]⟩, 1, 1, 24, 0, 0, 151⟩,
  ⟨⟨#[108, 111, 119, 101, 114]⟩, 1, 1, 8, 0, 0, 152⟩,
  ⟨⟨#[117, 112, 112, 101, 114]⟩, 1, 1, 8, 0, 0, 153⟩,
  ⟨⟨#[116, 114, 105, 109]⟩, 1, 1, 8, 0, 0, 154⟩,
  ⟨⟨#[115, 117, 98, 115, 116, 114]⟩, 3, 3, 24, 4, 4, 155⟩,
  ⟨⟨#[105, 110, 115, 116, 114]⟩, 2, 2, 8, 8, 0, 156⟩,
  ⟨⟨#[114, 101, 112, 108, 97, 99, 101]⟩, 3, 3, 8, 8, 8, 157⟩]
set_option maxRecDepth 100000 in
set_option maxHeartbeats 1000000 in
theorem functions_any (w : World) : Calls Tryz.prog 116 #[] w fun e w' => e = .returned (.slice (some ⟨w.heap.size, 0, none⟩) 11 11) ∧ w' = w.alloc (.cells #[.string ⟨#[99, 111, 97, 108, 101, 115, 99, 101]⟩, .int .i64 1, .int .i64 (-1), .int .u64 0, .int .u64 0, .int .u64 0, .func (.func 147) #[] #[], .string ⟨#[110, 117, 108, 108, 105, 102]⟩, .int .i64 2, .int .i64 2, .int .u64 0, .int .u64 0, .int .u64 0, .func (.func 148) #[] #[], .string ⟨#[97, 98, 115]⟩, .int .i64 1, .int .i64 1, .int .u64 4, .int .u64 0, .int .u64 0, .func (.func 149) #[] #[], .string ⟨#[115, 105, 103, 110]⟩, .int .i64 1, .int .i64 1, .int .u64 4, .int .u64 0, .int .u64 0, .func (.func 150) #[] #[], .string ⟨#[108, 101, 110, 103, 116, 104]⟩, .int .i64 1, .int .i64 1, .int .u64 24, .int .u64 0, .int .u64 0, .func (.func 151) #[] #[], .string ⟨#[108, 111, 119, 101, 114]⟩, .int .i64 1, .int .i64 1, .int .u64 8, .int .u64 0, .int .u64 0, .func (.func 152) #[] #[], .string ⟨#[117, 112, 112, 101, 114]⟩, .int .i64 1, .int .i64 1, .int .u64 8, .int .u64 0, .int .u64 0, .func (.func 153) #[] #[], .string ⟨#[116, 114, 105, 109]⟩, .int .i64 1, .int .i64 1, .int .u64 8, .int .u64 0, .int .u64 0, .func (.func 154) #[] #[], .string ⟨#[115, 117, 98, 115, 116, 114]⟩, .int .i64 3, .int .i64 3, .int .u64 24, .int .u64 4, .int .u64 4, .func (.func 155) #[] #[], .string ⟨#[105, 110, 115, 116, 114]⟩, .int .i64 2, .int .i64 2, .int .u64 8, .int .u64 8, .int .u64 0, .func (.func 156) #[] #[], .string ⟨#[114, 101, 112, 108, 97, 99, 101]⟩, .int .i64 3, .int .i64 3, .int .u64 8, .int .u64 8, .int .u64 8, .func (.func 157) #[] #[]] 97) := by
  go_enter Tryz.func116, Tryz.ntmps116
  go_wp2_with fail
  go_ret
  exact ⟨rfl, rfl⟩
structure FnsAt (w : World) (b : Nat) : Prop where
  lt : b < w.heap.size
  cell : ∀ k (h : k < fns.length) j, j < 7 → w.cell? ⟨b, k * 7 + j, none⟩ = fns[k].cells[j]?
theorem FnsAt.later {w w' : World} {b : Nat} (h : FnsAt w b) (hb : Below w.heap.size w w') : FnsAt w' b :=
  ⟨Nat.lt_of_lt_of_le h.lt hb.size, fun k hk j hj => (hb.cell (p := ⟨b, _, none⟩) h.lt).trans (h.cell k hk j hj)⟩
theorem fns_cells (k : Nat) (h : k < fns.length) (j : Nat) (hj : j < 7) : (#[.string ⟨#[99, 111, 97, 108, 101, 115, 99, 101]⟩, .int .i64 1, .int .i64 (-1), .int .u64 0, .int .u64 0, .int .u64 0, .func (.func 147) #[] #[], .string ⟨#[110, 117, 108, 108, 105, 102]⟩, .int .i64 2, .int .i64 2, .int .u64 0, .int .u64 0, .int .u64 0, .func (.func 148) #[] #[], .string ⟨#[97, 98, 115]⟩, .int .i64 1, .int .i64 1, .int .u64 4, .int .u64 0, .int .u64 0, .func (.func 149) #[] #[], .string ⟨#[115, 105, 103, 110]⟩, .int .i64 1, .int .i64 1, .int .u64 4, .int .u64 0, .int .u64 0, .func (.func 150) #[] #[], .string ⟨#[108, 101, 110, 103, 116, 104]⟩, .int .i64 1, .int .i64 1, .int .u64 24, .int .u64 0, .int .u64 0, .func (.func 151) #[] #[], .string ⟨#[108, 111, 119, 101, 114]⟩, .int .i64 1, .int .i64 1, .int .u64 8, .int .u64 0, .int .u64 0, .func (.func 152) #[] #[], .string ⟨#[117, 112, 112, 101, 114]⟩, .int .i64 1, .int .i64 1, .int .u64 8, .int .u64 0, .int .u64 0, .func (.func 153) #[] #[], .string ⟨#[116, 114, 105, 109]⟩, .int .i64 1, .int .i64 1, .int .u64 8, .int .u64 0, .int .u64 0, .func (.func 154) #[] #[], .string ⟨#[115, 117, 98, 115, 116, 114]⟩, .int .i64 3, .int .i64 3, .int .u64 24, .int .u64 4, .int .u64 4, .func (.func 155) #[] #[], .string ⟨#[105, 110, 115, 116, 114]⟩, .int .i64 2, .int .i64 2, .int .u64 8, .int .u64 8, .int .u64 0, .func (.func 156) #[] #[], .string ⟨#[114, 101, 112, 108, 97, 99, 101]⟩, .int .i64 3, .int .i64 3, .int .u64 8, .int .u64 8, .int .u64 8, .func (.func 157) #[] #[]] : Array Value)[k * 7 + j]? = fns[k].cells[j]? := by
  have hk : k < 11 := h
  match k, hk, j, hj with
  | 0, _, 0, _ => rfl
  | 0, _, 1, _ => rfl
  | 0, _, 2, _ => rfl
  | 0, _, 3, _ => rfl
  | 0, _, 4, _ => rfl
  | 0, _, 5, _ => rfl
  | 0, _, 6, _ => rfl
  | 1, _, 0, _ => rfl
  | 1, _, 1, _ => rfl
  | 1, _, 2, _ => rfl
  | 1, _, 3, _ => rfl
  | 1, _, 4, _ => rfl
  | 1, _, 5, _ => rfl
  | 1, _, 6, _ => rfl
  | 2, _, 0, _ => rfl
  | 2, _, 1, _ => rfl
  | 2, _, 2, _ => rfl
  | 2, _, 3, _ => rfl
  | 2, _, 4, _ => rfl
  | 2, _, 5, _ => rfl
  | 2, _, 6, _ => rfl
  | 3, _, 0, _ => rfl
  | 3, _, 1, _ => rfl
  | 3, _, 2, _ => rfl
  | 3, _, 3, _ => rfl
  | 3, _, 4, _ => rfl
  | 3, _, 5, _ => rfl
  | 3, _, 6, _ => rfl
  | 4, _, 0, _ => rfl
  | 4, _, 1, _ => rfl
  | 4, _, 2, _ => rfl
  | 4, _, 3, _ => rfl
  | 4, _, 4, _ => rfl
  | 4, _, 5, _ => rfl
  | 4, _, 6, _ => rfl
  | 5, _, 0, _ => rfl
  | 5, _, 1, _ => rfl
  | 5, _, 2, _ => rfl
  | 5, _, 3, _ => rfl
  | 5, _, 4, _ => rfl
  | 5, _, 5, _ => rfl
  | 5, _, 6, _ => rfl
  | 6, _, 0, _ => rfl
  | 6, _, 1, _ => rfl
  | 6, _, 2, _ => rfl
  | 6, _, 3, _ => rfl
  | 6, _, 4, _ => rfl
  | 6, _, 5, _ => rfl
  | 6, _, 6, _ => rfl
  | 7, _, 0, _ => rfl
  | 7, _, 1, _ => rfl
  | 7, _, 2, _ => rfl
  | 7, _, 3, _ => rfl
  | 7, _, 4, _ => rfl
  | 7, _, 5, _ => rfl
  | 7, _, 6, _ => rfl
  | 8, _, 0, _ => rfl
  | 8, _, 1, _ => rfl
  | 8, _, 2, _ => rfl
  | 8, _, 3, _ => rfl
  | 8, _, 4, _ => rfl
  | 8, _, 5, _ => rfl
  | 8, _, 6, _ => rfl
  | 9, _, 0, _ => rfl
  | 9, _, 1, _ => rfl
  | 9, _, 2, _ => rfl
  | 9, _, 3, _ => rfl
  | 9, _, 4, _ => rfl
  | 9, _, 5, _ => rfl
  | 9, _, 6, _ => rfl
  | 10, _, 0, _ => rfl
  | 10, _, 1, _ => rfl
  | 10, _, 2, _ => rfl
  | 10, _, 3, _ => rfl
  | 10, _, 4, _ => rfl
  | 10, _, 5, _ => rfl
  | 10, _, 6, _ => rfl
theorem fns_made (w : World) : FnsAt (w.alloc (.cells #[.string ⟨#[99, 111, 97, 108, 101, 115, 99, 101]⟩, .int .i64 1, .int .i64 (-1), .int .u64 0, .int .u64 0, .int .u64 0, .func (.func 147) #[] #[], .string ⟨#[110, 117, 108, 108, 105, 102]⟩, .int .i64 2, .int .i64 2, .int .u64 0, .int .u64 0, .int .u64 0, .func (.func 148) #[] #[], .string ⟨#[97, 98, 115]⟩, .int .i64 1, .int .i64 1, .int .u64 4, .int .u64 0, .int .u64 0, .func (.func 149) #[] #[], .string ⟨#[115, 105, 103, 110]⟩, .int .i64 1, .int .i64 1, .int .u64 4, .int .u64 0, .int .u64 0, .func (.func 150) #[] #[], .string ⟨#[108, 101, 110, 103, 116, 104]⟩, .int .i64 1, .int .i64 1, .int .u64 24, .int .u64 0, .int .u64 0, .func (.func 151) #[] #[], .string ⟨#[108, 111, 119, 101, 114]⟩, .int .i64 1, .int .i64 1, .int .u64 8, .int .u64 0, .int .u64 0, .func (.func 152) #[] #[], .string ⟨#[117, 112, 112, 101, 114]⟩, .int .i64 1, .int .i64 1, .int .u64 8, .int .u64 0, .int .u64 0, .func (.func 153) #[] #[], .string ⟨#[116, 114, 105, 109]⟩, .int .i64 1, .int .i64 1, .int .u64 8, .int .u64 0, .int .u64 0, .func (.func 154) #[] #[], .string ⟨#[115, 117, 98, 115, 116, 114]⟩, .int .i64 3, .int .i64 3, .int .u64 24, .int .u64 4, .int .u64 4, .func (.func 155) #[] #[], .string ⟨#[105, 110, 115, 116, 114]⟩, .int .i64 2, .int .i64 2, .int .u64 8, .int .u64 8, .int .u64 0, .func (.func 156) #[] #[], .string ⟨#[114, 101, 112, 108, 97, 99, 101]⟩, .int .i64 3, .int .i64 3, .int .u64 8, .int .u64 8, .int .u64 8, .func (.func 157) #[] #[]] 97)) w.heap.size := by
  have hn : (w.alloc (.cells #[.string ⟨#[99, 111, 97, 108, 101, 115, 99, 101]⟩, .int .i64 1, .int .i64 (-1), .int .u64 0, .int .u64 0, .int .u64 0, .func (.func 147) #[] #[], .string ⟨#[110, 117, 108, 108, 105, 102]⟩, .int .i64 2, .int .i64 2, .int .u64 0, .int .u64 0, .int .u64 0, .func (.func 148) #[] #[], .string ⟨#[97, 98, 115]⟩, .int .i64 1, .int .i64 1, .int .u64 4, .int .u64 0, .int .u64 0, .func (.func 149) #[] #[], .string ⟨#[115, 105, 103, 110]⟩, .int .i64 1, .int .i64 1, .int .u64 4, .int .u64 0, .int .u64 0, .func (.func 150) #[] #[], .string ⟨#[108, 101, 110, 103, 116, 104]⟩, .int .i64 1, .int .i64 1, .int .u64 24, .int .u64 0, .int .u64 0, .func (.func 151) #[] #[], .string ⟨#[108, 111, 119, 101, 114]⟩, .int .i64 1, .int .i64 1, .int .u64 8, .int .u64 0, .int .u64 0, .func (.func 152) #[] #[], .string ⟨#[117, 112, 112, 101, 114]⟩, .int .i64 1, .int .i64 1, .int .u64 8, .int .u64 0, .int .u64 0, .func (.func 153) #[] #[], .string ⟨#[116, 114, 105, 109]⟩, .int .i64 1, .int .i64 1, .int .u64 8, .int .u64 0, .int .u64 0, .func (.func 154) #[] #[], .string ⟨#[115, 117, 98, 115, 116, 114]⟩, .int .i64 3, .int .i64 3, .int .u64 24, .int .u64 4, .int .u64 4, .func (.func 155) #[] #[], .string ⟨#[105, 110, 115, 116, 114]⟩, .int .i64 2, .int .i64 2, .int .u64 8, .int .u64 8, .int .u64 0, .func (.func 156) #[] #[], .string ⟨#[114, 101, 112, 108, 97, 99, 101]⟩, .int .i64 3, .int .i64 3, .int .u64 8, .int .u64 8, .int .u64 8, .func (.func 157) #[] #[]] 97)).heap[w.heap.size]? = some (.cells _ 97 (0, 0)) := heap_alloc_new w _
  refine ⟨by simp [World.size_alloc], fun k hk j hj => ?_⟩
  rw [Lib.cell_of_heap hn]
  exact fns_cells k hk j hj
theorem functions_at (w : World) : Calls Tryz.prog 116 #[] w fun e w' => e = .returned (.slice (some ⟨w.heap.size, 0, none⟩) 11 11) ∧ Below w.heap.size w w' ∧ FnsAt w' w.heap.size :=
  (functions_any w).mono fun e w' ⟨he, hw⟩ => ⟨he, by rw [hw]; exact (Below.refl _ w).alloc (Nat.le_refl _) _, by rw [hw]; exact fns_made w⟩
end Go.Proofs.YtcmbdghbicjljaaGreatDoor.SC
namespace Go.Proofs.YtcmbdghbicjljaaGreatDoor.BV
end Go.Proofs.YtcmbdghbicjljaaGreatDoor.BV
namespace Go.Proofs.YtcmbdghbicjljaaGreatDoor.SC
open Go.Proofs.YtcmbdghbicjljaaGreatDoor.BV
open Go.RowKit
def look (nm : ByteArray) : Option Fn := fns.find? fun f => f.nm.toList == nm.toList
def fnAgg (x : Fn) : Value := .agg #[.string x.nm, .int .i64 x.lo, .int .i64 x.hi, .int .u64 x.k0, .int .u64 x.k1, .int .u64 x.k2, .func (.func x.f) #[] #[]]
def fnVal : Option Fn → Value
  | some x => fnAgg x
  | none => .agg #[.string ⟨#[]⟩, .int .i64 0, .int .i64 0, .int .u64 0, .int .u64 0, .int .u64 0, .nilFunc]
theorem look_at {nm : ByteArray} {k : Nat} (hk : k < fns.length) (h0 : ∀ j (h : j < fns.length), j < k → (fns[j].nm.toList == nm.toList) = false) (h1 : (fns[k].nm.toList == nm.toList) = true) : look nm = some fns[k] := by
  unfold look
  rw [List.find?_eq_some_iff_getElem]
  refine ⟨h1, k, hk, rfl, fun j hj => ?_⟩
  rw [h0 j (by omega) hj]
  rfl
theorem look_none {nm : ByteArray} (h0 : ∀ j (h : j < fns.length), (fns[j].nm.toList == nm.toList) = false) : look nm = none := by
  unfold look
  rw [List.find?_eq_none]
  intro x hx
  obtain ⟨j, hj, rfl⟩ := List.getElem_of_mem hx
  rw [h0 j hj]
  simp
theorem fns_len : fns.length = 11 := rfl
def FBox (w : World) (b : Nat) : Prop := w.heap[b]? = some (.cells #[.string ⟨#[]⟩, .int .i64 0, .int .i64 0, .int .u64 0, .int .u64 0, .int .u64 0, .nilFunc] 97 (0, 0))
theorem FBox.cells {w : World} {b : Nat} (h : FBox w b) : w.cell? ⟨b, 0, none⟩ = some (.string ⟨#[]⟩) ∧ w.cell? ⟨b, 1, none⟩ = some (.int .i64 0) ∧ w.cell? ⟨b, 2, none⟩ = some (.int .i64 0) ∧ w.cell? ⟨b, 3, none⟩ = some (.int .u64 0) ∧ w.cell? ⟨b, 4, none⟩ = some (.int .u64 0) ∧ w.cell? ⟨b, 5, none⟩ = some (.int .u64 0) ∧ w.cell? ⟨b, 6, none⟩ = some .nilFunc := by
  unfold FBox at h
  refine ⟨?_, ?_, ?_, ?_, ?_, ?_, ?_⟩ <;> (rw [Lib.cell_of_heap h]; rfl)
theorem FBox.free {w : World} {b : Nat} (h : FBox w b) : ∀ o, w.frozen? ⟨b, o, none⟩ = false := by
  intro o
  unfold FBox at h
  unfold World.frozen?
  simp [h]
end Go.Proofs.YtcmbdghbicjljaaGreatDoor.SC
