/- Worlds later than one, and a region's walk over a class of worlds. No condition. -/
import Derived.Test.YtcnpoinocnfnjaaGreatDoorQ10
import Derived.Deep.Quiet
import Derived.Test.YtcnpoinocnfnjaaGreatDoorQ14
import Derived.Test.YtcnpoinocnfnjaaGreatDoorQ40
import Derived.Test.YtcnpoinocnfnjaaGreatDoorQ42
import Derived.Test.YtcnpoinocnfnjaaGreatDoorQ29
import Derived.Test.YtcnpoinocnfnjaaGreatDoorQ32
import Derived.Test.YtcnpoinocnfnjaaGreatDoorQ43
namespace Go.Proofs.YtcnpoinocnfnjaaGreatDoor
open Go.RowKit
def LTx (w : World) : Type := { W : World // Below w.heap.size w W }
theorem wp_region_classx {P : Program} {id : Nat} {Q : Exit → Act → World → Prop} {a : Act} {w : World} {l : List Oper} (C : World → Prop) (hm : P.follows .mixedOrders = true) (hB : Region.lexB .any l.toArray = true) (hC : C w.drew) (h : wpQuiet P l.toArray C (fun a' => ∀ w', C w' → Q .normal a' w') l a) : (Code.region id l.toArray true).wp P Q a w :=
  wp_region_quiet (C := C) hm hB hC (by simpa using h)
end Go.Proofs.YtcnpoinocnfnjaaGreatDoor
namespace Go.Proofs.YtcnpoinocnfnjaaGreatDoor
open Go.RowKit
set_option maxRecDepth 100000 in
theorem upC_nat (c : UInt8) : (97 ≤ c.toNat ∧ c.toNat ≤ 122 → ((c.toNat : Int) - 32 = ((upC c).toNat : Int))) ∧ (¬ (97 ≤ c.toNat ∧ c.toNat ≤ 122) → upC c = c) := by
  have h : ∀ x : Fin 256, (97 ≤ x.val ∧ x.val ≤ 122 → ((x.val : Int) - 32 = ((upC (UInt8.ofNat x.val)).toNat : Int))) ∧ (¬ (97 ≤ x.val ∧ x.val ≤ 122) → upC (UInt8.ofNat x.val) = UInt8.ofNat x.val) := by decide
  have := h ⟨c.toNat, c.toNat_lt⟩
  simpa using this
theorem bel_allocU {w w1 : World} (h : Below w.heap.size w w1) (o : Obj) : Below w.heap.size w (w1.alloc o) := h.alloc h.size o
set_option maxRecDepth 100000 in
set_option maxHeartbeats 2000000 in
theorem rUpper (s : ByteArray) (w : World) (hs : s.size ≤ 1000) : Calls Tryz.prog 87 #[.string s] w fun r w' => r = .returned (.string ⟨(s.data.toList.map upC).toArray⟩) ∧ Below w.heap.size w w' := by
  go_enter Tryz.func87, Tryz.ntmps87
  go_wp2_with fail
  go_loopw [4, 3] (fun i o wr => ∃ (k : Nat) (b : ByteArray), k ≤ s.size ∧ i = .int .i64 (k : Int) ∧ o = .string b ∧ b.size = k ∧ Hid (Below w.heap.size w wr) ∧ Hid (b.data.toList = (s.data.toList.take k).map upC)) (fun i _ _ => s.size - (intOf i).toNat)
  case atStart => exact ⟨0, ⟨#[]⟩, Nat.zero_le _, rfl, rfl, rfl, Lib.hid (Below.refl _ w), Lib.hid (by simp)⟩
  case round =>
    obtain ⟨k, b, hk, rfl, rfl, hbz, HB, HD⟩ := hrel
    by_cases hlt : k < s.size
    · have hkz : (k : Int) < (s.size : Int) := by omega
      have hl : k < s.data.toList.length := by simpa using hlt
      have HX : Hid ((s.data.toList.take (k + 1)).map upC = (s.data.toList.take k).map upC ++ [upC s[k]]) := Lib.hid (by rw [List.take_succ_eq_append_getElem hl, List.map_append]; rfl)
      have hr2 := bel_allocU HB.out (.cells #[.int .u8 ((upC s[k]).toNat : Int)] 5)
      have HR2 := Lib.hid hr2
      clear hr2
      by_cases hq : 97 ≤ s[k].toNat ∧ s[k].toNat ≤ 122
      · have h1 : (97 : Int) ≤ (s[k].toNat : Int) := by omega
        have h2 : (s[k].toNat : Int) ≤ 122 := by omega
        have hc := (upC_nat s[k]).1 hq
        have kc := BV.conv1 wr (upC s[k]) ((s[k].toNat : Int) - 32) hc
        have HC := Lib.hid hc
        clear hc
        go_wp2_with fail
        go_roundw
        case rel => exact ⟨k + 1, b ++ ⟨#[upC s[k]]⟩, by omega, by go_num, rfl, by rw [ByteArray.size_append, hbz]; rfl, by rw [HC.out]; exact HR2, Lib.hid (by rw [HX.out, BV.ba_app, HD.out])⟩
        case measure => simp [intOf]; omega
      · have hc := (upC_nat s[k]).2 hq
        have kc := BV.conv1 wr s[k] (s[k].toNat : Int) rfl
        have HC := Lib.hid hc
        clear hc
        by_cases hq1 : 97 ≤ s[k].toNat
        · have h1 : (97 : Int) ≤ (s[k].toNat : Int) := by omega
          have h2 : ¬ (s[k].toNat : Int) ≤ 122 := by omega
          go_wp2_with fail
          go_roundw
          case rel => exact ⟨k + 1, b ++ ⟨#[s[k]]⟩, by omega, by go_num, rfl, by rw [ByteArray.size_append, hbz]; rfl, by have := HR2; rw [HC.out] at this; exact this, Lib.hid (by rw [HX.out, BV.ba_app, HD.out, HC.out])⟩
          case measure => simp [intOf]; omega
        · have h1 : ¬ (97 : Int) ≤ (s[k].toNat : Int) := by omega
          go_wp2_with fail
          go_roundw
          case rel => exact ⟨k + 1, b ++ ⟨#[s[k]]⟩, by omega, by go_num, rfl, by rw [ByteArray.size_append, hbz]; rfl, by have := HR2; rw [HC.out] at this; exact this, Lib.hid (by rw [HX.out, BV.ba_app, HD.out, HC.out])⟩
          case measure => simp [intOf]; omega
    · obtain rfl : k = s.size := by omega
      have hl : s.data.toList.take s.size = s.data.toList := List.take_of_length_le (by simp)
      have HT : Hid (b = ⟨(s.data.toList.map upC).toArray⟩) := Lib.hid (by have h := HD.out; rw [hl] at h; rw [← h])
      clear hl
      go_wp2_with fail
      go_ret
      have hT := HT.out
      subst hT
      exact ⟨rfl, HB.out⟩
end Go.Proofs.YtcnpoinocnfnjaaGreatDoor
namespace Go.Proofs.YtcnpoinocnfnjaaGreatDoor
open Go.RowKit
theorem str_app (a b : List UInt8) : str a ++ str b = str (a ++ b) := by
  unfold str
  apply ByteArray.ext
  simp
def TxtR (e : E) : Prop := ∀ (x : Value) (S : Nat → Prop) (w : World), EAt S w e x → e.txt.length ≤ 10000000000 → Calls Tryz.prog 41 #[x] w fun r w' => r = .returned (.string (str e.txt)) ∧ Below w.heap.size w w'
theorem ret_s {a b : ByteArray} (h : a = b) : Ending.returned (.string a) = .returned (.string b) := by rw [h]
set_option maxRecDepth 100000 in
set_option maxHeartbeats 4000000 in
theorem rPart (e : E) (h : TxtR e) (x : Value) (S : Nat → Prop) (w : World) (hx : EAt S w e x) (hlen : e.prt.length ≤ 10000000000) : Calls Tryz.prog 86 #[x] w fun r w' => r = .returned (.string (str e.prt)) ∧ Below w.heap.size w w' := by
  obtain ⟨A, c, rfl, hs⟩ := hx
  have hx0 : EAt S w e (eVal e.op e.v e.tb e.nm (.slice A e.l.length c)) := ⟨A, c, rfl, hs⟩
  have ht : e.txt.length ≤ 10000000000 := by unfold E.prt partB at hlen; split at hlen; exact hlen; simp [brkB] at hlen; omega
  obtain ⟨W1, hW1, q1, z1, r1⟩ := box7 w (.string (str e.op)) (.int .i64 e.v.k) (.int .i64 e.v.i) (.string (str e.v.s)) (.string (str e.tb)) (.string (str e.nm)) (.slice A e.l.length c)
  have HT := Lib.hid (h _ S W1 (hx0.later r1) ht)
  have e1 : ((str e.op).toList == [99, 111, 108]) = (e.op == wCol) := by rw [Lib.toList_data, str_list]; rfl
  have e2 : ((str e.op).toList == [99, 97, 108, 108]) = (e.op == wCall) := by rw [Lib.toList_data, str_list]; rfl
  have e3 : ((str e.op).toList == [108, 105, 116]) = (e.op == wLit) := by rw [Lib.toList_data, str_list]; rfl
  have hpl : e.plain = (e.op == wCol || e.op == wCall || (e.op == wLit && !(e.v.k == 2 && decide (e.v.i < 0)))) := rfl
  have hpr : str e.prt = if e.plain then str e.txt else ⟨#[40]⟩ ++ str e.txt ++ ⟨#[41]⟩ := by
    unfold E.prt partB
    split
    · rfl
    · rw [show (⟨#[40]⟩ : ByteArray) = str [40] from rfl, show (⟨#[41]⟩ : ByteArray) = str [41] from rfl, str_app, str_app]; rfl
  have hz : (str e.txt).size ≤ 10000000000 := by rw [str_size]; exact ht
  have hcat1 : ¬ (9223372036854775807 < 1 + (str e.txt).size) := by omega
  have hcat2 : ¬ (9223372036854775807 < 1 + (str e.txt).size + 1) := by omega
  rw [hpr]
  have HP := Lib.hid hpl
  generalize e.plain = pl at *
  generalize (e.op == wCol) = p1 at *
  generalize (e.op == wCall) = p2 at *
  generalize (e.op == wLit) = p3 at *
  unfold eVal at *
  generalize str e.txt = tx at *
  generalize str e.op = bo at *
  generalize str e.tb = bt at *
  generalize str e.nm = bn at *
  generalize str e.v.s = bs at *
  generalize e.v.k = vk at *
  generalize e.v.i = vi at *
  generalize e.l.length = ln at *
  obtain ⟨a0, a1, a2, a3, a4, a5, a6⟩ := q1.cells
  have HW1 := Lib.hid hW1
  have HB := Lib.hid r1
  clear hW1 q1 z1 r1 hs hx0 ht hlen hpr hpl
  cases p1
  · cases p2
    · cases p3
      · have hp : pl = false := HP.out
        subst hp
        go_enter Tryz.func86, Tryz.ntmps86
        go_wp2_with (rw [← HW1.out])
        refine (HT.out).mono ?_
        rintro r w2 ⟨rfl, b2⟩
        go_wp2_with fail
        go_ret
        exact ⟨rfl, bthen HB.out b2⟩
      · by_cases hk : vk = 2
        · subst hk
          by_cases hi : vi < 0
          · have hp : pl = false := by rw [HP.out, decide_eq_true hi]; rfl
            subst hp
            go_enter Tryz.func86, Tryz.ntmps86
            go_wp2_with (rw [← HW1.out])
            refine (HT.out).mono ?_
            rintro r w2 ⟨rfl, b2⟩
            go_wp2_with fail
            go_ret
            exact ⟨rfl, bthen HB.out b2⟩
          · have hp : pl = true := by rw [HP.out, decide_eq_false hi]; rfl
            subst hp
            go_enter Tryz.func86, Tryz.ntmps86
            go_wp2_with (rw [← HW1.out])
            refine (HT.out).mono ?_
            rintro r w2 ⟨rfl, b2⟩
            go_wp2_with fail
            go_ret
            exact ⟨rfl, bthen HB.out b2⟩
        · have hkf : (vk == 2) = false := by simpa using hk
          have hp : pl = true := by rw [HP.out, hkf]; rfl
          subst hp
          go_enter Tryz.func86, Tryz.ntmps86
          go_wp2_with (rw [← HW1.out])
          refine (HT.out).mono ?_
          rintro r w2 ⟨rfl, b2⟩
          go_wp2_with fail
          go_ret
          exact ⟨rfl, bthen HB.out b2⟩
    · have hp : pl = true := by rw [HP.out]; rfl
      subst hp
      go_enter Tryz.func86, Tryz.ntmps86
      go_wp2_with (rw [← HW1.out])
      refine (HT.out).mono ?_
      rintro r w2 ⟨rfl, b2⟩
      go_wp2_with fail
      go_ret
      exact ⟨rfl, bthen HB.out b2⟩
  · have hp : pl = true := by rw [HP.out]; rfl
    subst hp
    go_enter Tryz.func86, Tryz.ntmps86
    go_wp2_with (rw [← HW1.out])
    refine (HT.out).mono ?_
    rintro r w2 ⟨rfl, b2⟩
    go_wp2_with fail
    go_ret
    exact ⟨rfl, bthen HB.out b2⟩
set_option maxRecDepth 100000 in
set_option maxHeartbeats 4000000 in
theorem rTexts (l : List E) (hT : ∀ j (hj : j < l.length), TxtR l[j]) (S : Nat → Prop) (w : World) (A : Option Addr) (c : Nat) (hs : Sub S w (op1 [] l) A c) (hlen : (joinB (txtL l)).length ≤ 10000000000) :
    Calls Tryz.prog 85 #[.slice A l.length c] w fun r w' => r = .returned (.string (str (joinB (txtL l)))) ∧ Below w.heap.size w w' := by
  obtain ⟨hlc, hcm, hmem⟩ := Sub.eq.1 hs
  simp only [op1, E.l] at hlc hmem
  have hm : l.length ≤ 9223372036854775807 := Nat.le_trans hlc hcm
  have HI := Lib.hid hT
  have HK : Hid (∀ k (hk : k < l.length), str (joinK l (k + 1)) = str (joinK l k) ++ (if k = 0 then ⟨#[]⟩ else ⟨#[44, 32]⟩) ++ str l[k].txt) := Lib.hid fun k hk => by
    rw [joinK_succ hk]
    split
    · rw [show (⟨#[]⟩ : ByteArray) = str [] from rfl, str_app, str_app]; simp
    · rw [show (⟨#[44, 32]⟩ : ByteArray) = str [44, 32] from rfl, str_app, str_app]; simp
  have HKz : Hid (∀ k, (str (joinK l k)).size ≤ 10000000000) := Lib.hid fun k => by rw [str_size]; exact Nat.le_trans (joinK_le l k) hlen
  have HTz : Hid (∀ k (hk : k < l.length), l[k].txt.length ≤ 10000000000) := Lib.hid fun k hk => by
    have h1 := joinK_le l (k + 1)
    rw [joinK_succ hk] at h1
    simp only [List.length_append] at h1
    omega
  have HA : Hid (str (joinB (txtL l)) = str (joinK l l.length)) := Lib.hid (by rw [joinK_all])
  have H0 : Hid (str (joinK l 0) = ⟨#[]⟩) := Lib.hid rfl
  have HM := Lib.hid hmem
  generalize str (joinB (txtL l)) = res at *
  generalize hJ : (fun k => str (joinK l k)) = J at *
  have HJ : Hid (∀ k, str (joinK l k) = J k) := Lib.hid fun k => by rw [← hJ]
  simp only [HJ.out] at HK HKz HA H0
  clear hmem hs hT hlc hcm hlen hJ HJ
  go_enter Tryz.func85, Tryz.ntmps85
  go_wp2_with fail
  go_loopw [8, 3] (fun iv o wr => ∃ (k : Nat), k ≤ l.length ∧ iv = .int .i64 k ∧ o = .string (J k) ∧ Hid (Below w.heap.size w wr)) (fun iv _ _ => l.length - (intOf iv).toNat)
  case atStart => exact ⟨0, Nat.zero_le _, rfl, by rw [H0.out], Lib.hid (Below.refl _ _)⟩
  case round =>
    obtain ⟨k, hk, rfl, rfl, HB⟩ := hrel
    by_cases hlt : k < l.length
    · obtain ⟨g, off, rfl, hS, hg, hl⟩ := HM.out (by omega)
      obtain ⟨A', c', ⟨g0, g1, g2, g3, g4, g5, g6⟩, hs⟩ := hl.get k hlt
      have hkz : (k : Int) < (l.length : Int) := by omega
      have z := HB.out.size
      have i0 := (HB.out.cell (p := ⟨g, off + k * 7, none⟩) hg).trans g0
      have i1 := (HB.out.cell (p := ⟨g, off + k * 7 + 1, none⟩) hg).trans g1
      have i2 := (HB.out.cell (p := ⟨g, off + k * 7 + 2, none⟩) hg).trans g2
      have i3 := (HB.out.cell (p := ⟨g, off + k * 7 + 3, none⟩) hg).trans g3
      have i4 := (HB.out.cell (p := ⟨g, off + k * 7 + 4, none⟩) hg).trans g4
      have i5 := (HB.out.cell (p := ⟨g, off + k * 7 + 5, none⟩) hg).trans g5
      have i6 := (HB.out.cell (p := ⟨g, off + k * 7 + 6, none⟩) hg).trans g6
      obtain ⟨X1, X, hX1, hX, b1, b2, hz, hb1, hb2⟩ := made7 wr (.string (str l[k].op)) (.int .i64 l[k].v.k) (.int .i64 l[k].v.i) (.string (str l[k].v.s)) (.string (str l[k].tb)) (.string (str l[k].nm)) (.slice A' l[k].l.length c')
      have f1 := b1.free
      have y1 := b2.cells
      obtain ⟨p10, p11, p12, p13, p14, p15, p16⟩ := b1.cells
      have hE : EAt S X l[k] (eVal l[k].op l[k].v l[k].tb l[k].nm (.slice A' l[k].l.length c')) := by
        have h0 : EAt S w l[k] (eVal l[k].op l[k].v l[k].tb l[k].nm (.slice A' l[k].l.length c')) := ⟨A', c', rfl, hs⟩
        exact (h0.later HB.out).later hb2
      have htz := HTz.out k hlt
      have HC := Lib.hid (HI.out k hlt _ S X hE htz)
      have hKK := HK.out k hlt
      have HBX := Lib.hid (bthen HB.out hb2)
      have HX1 := Lib.hid hX1
      have HX := Lib.hid hX
      obtain ⟨f10, f11, f12, f13, f14, f15, f16⟩ := f1
      obtain ⟨y10, y11, y12, y13, y14, y15, y16⟩ := y1
      have hz1 := HKz.out k
      have hz2 : (str l[k].txt).size ≤ 10000000000 := by rw [str_size]; exact htz
      have hcat1 : ¬ (9223372036854775807 < (J k).size + 2) := by omega
      have hcat2 : ¬ (9223372036854775807 < (J k).size + 2 + (str l[k].txt).size) := by omega
      have hcat3 : ¬ (9223372036854775807 < (J k).size + (str l[k].txt).size) := by omega
      unfold eVal at HC
      generalize str l[k].txt = tx at *
      generalize str l[k].op = bo' at *
      generalize str l[k].tb = bt' at *
      generalize str l[k].nm = bn' at *
      generalize str l[k].v.s = bs' at *
      generalize l[k].v.k = vk' at *
      generalize l[k].v.i = vi' at *
      generalize l[k].l.length = ln' at *
      have HKK := Lib.hid hKK
      clear hX1 hX hs hl hE g0 g1 g2 g3 g4 g5 g6 b1 b2 hb1 hb2 HB HI HM HK HA H0 HTz hKK htz
      by_cases hk0 : k = 0
      · have hgt : ¬ (0 : Int) < (k : Int) := by omega
        have hk1 := HKK.out
        rw [if_pos hk0, show J k ++ (⟨#[]⟩ : ByteArray) = J k by apply ByteArray.ext; simp] at hk1
        have HK1 := Lib.hid hk1
        clear hk1 hk0 HKK
        go_wp2_with (first | (rw [← HX.out]) | (rw [← HX1.out]))
        refine (HC.out).mono ?_
        rintro e w9 ⟨rfl, b9⟩
        go_wp2_with fail
        go_roundw
        case measure => simp [intOf]; omega
        case rel => exact ⟨k + 1, by omega, by go_num, by rw [HK1.out], Lib.hid (bthen HBX.out b9)⟩
      · have hgt2 : (0 : Int) < (k : Int) := by omega
        go_wp2_with (first | (rw [← HX.out]) | (rw [← HX1.out]))
        refine (HC.out).mono ?_
        rintro e w9 ⟨rfl, b9⟩
        have hk1 := HKK.out
        rw [if_neg hk0] at hk1
        have HK1 := Lib.hid hk1
        clear hk1
        go_wp2_with fail
        go_roundw
        case measure => simp [intOf]; omega
        case rel => exact ⟨k + 1, by omega, by go_num, by rw [HK1.out], Lib.hid (bthen HBX.out b9)⟩
    · have hke : k = l.length := by omega
      have hkz : ¬ (k : Int) < (l.length : Int) := by omega
      subst hke
      have hA := HA.out
      subst hA
      clear HM HI HK HKz HTz
      go_wp2_with fail
      go_ret
      exact ⟨rfl, HB.out⟩
end Go.Proofs.YtcnpoinocnfnjaaGreatDoor
namespace Go.Proofs.YtcnpoinocnfnjaaGreatDoor
open Go.RowKit
theorem op_open {o : List UInt8} {l : List E} {S : Nat → Prop} {w : World} {u : Value} (h : EAt S w (op1 o l) u) : ∃ A c, u = .agg #[.string (str o), .int .i64 0, .int .i64 0, .string ⟨#[]⟩, .string ⟨#[]⟩, .string ⟨#[]⟩, .slice A l.length c] ∧ Sub S w (op1 [] l) A c := by
  obtain ⟨A, c, h1, h2⟩ := h
  exact ⟨A, c, h1, h2⟩
theorem part_at {S : Nat → Prop} {w : World} {l : List E} {A : Option Addr} {c : Nat} (h : Sub S w (op1 [] l) A c) (j : Nat) (hj : j < l.length) : ∃ g off A' c', A = some ⟨g, off, none⟩ ∧ g < w.heap.size ∧ Cells7 w g (off + j * 7) l[j] A' c' ∧ EAt S w l[j] (eVal l[j].op l[j].v l[j].tb l[j].nm (.slice A' l[j].l.length c')) := by
  obtain ⟨_, _, hm⟩ := Sub.eq.1 h
  obtain ⟨g, off, hA, _, hg, hl⟩ := hm (by simp only [op1, E.l]; omega)
  obtain ⟨A', c', h1, h2⟩ := hl.get j hj
  exact ⟨g, off, A', c', hA, hg, h1, ⟨A', c', rfl, h2⟩⟩
theorem Cells7.later {w w' : World} {g o : Nat} {e : E} {A : Option Addr} {c : Nat} (h : Cells7 w g o e A c) (hg : g < w.heap.size) (hb : Below w.heap.size w w') : Cells7 w' g o e A c := h.same (hb.block g hg)
set_option maxRecDepth 100000 in
set_option maxHeartbeats 4000000 in
theorem tr_neg (x0 : E) (h : TxtR x0) : TxtR (op1 wNeg [x0]) := by
  intro u S w hx hlen
  obtain ⟨A, c, rfl, hs⟩ := op_open hx
  obtain ⟨g, off, A', c', rfl, hg, hc, hE⟩ := part_at hs 0 (by simp)
  simp only [List.getElem_cons_zero, Nat.zero_mul, Nat.add_zero, List.length_singleton] at *
  have htx : str (op1 wNeg [x0]).txt = ⟨#[45, 40]⟩ ++ str x0.txt ++ ⟨#[41]⟩ := by
    have e : (op1 wNeg [x0]).txt = ([45, 40] : List UInt8) ++ x0.txt ++ ([41] : List UInt8) := by show 45 :: brkB x0.txt = _; simp [brkB]
    rw [e]
    simp only [← str_app]
    rfl
  have hpl : x0.txt.length ≤ 10000000000 := by
    have := congrArg ByteArray.size htx
    simp only [ByteArray.size_append, str_size] at this
    omega
  obtain ⟨W1, hW1, q1, z1, r1⟩ := box7 w (.string ⟨#[110, 101, 103]⟩) (.int .i64 0) (.int .i64 0) (.string ⟨#[]⟩) (.string ⟨#[]⟩) (.string ⟨#[]⟩) (.slice (some ⟨g, off, none⟩) 1 c)
  have HC := Lib.hid (h _ S W1 (hE.later r1) hpl)
  obtain ⟨i0, i1, i2, i3, i4, i5, i6⟩ := hc.later hg r1
  have hz : (str x0.txt).size ≤ 10000000000 := by rw [str_size]; exact hpl
  have hcat1 : ¬ (9223372036854775807 < 2 + (str x0.txt).size) := by omega
  have hcat2 : ¬ (9223372036854775807 < 2 + (str x0.txt).size + 1) := by omega
  have hcat3 : ¬ (9223372036854775807 < (str x0.txt).size + 1) := by omega
  rw [htx]
  show Calls Tryz.prog 41 #[.agg #[.string ⟨#[110, 101, 103]⟩, .int .i64 0, .int .i64 0, .string ⟨#[]⟩, .string ⟨#[]⟩, .string ⟨#[]⟩, .slice (some ⟨g, off, none⟩) 1 c]] w _
  unfold eVal at HC
  generalize str x0.txt = tx at *
  generalize str x0.op = bo0 at *
  generalize str x0.tb = bt0 at *
  generalize str x0.nm = bn0 at *
  generalize str x0.v.s = bs0 at *
  generalize x0.v.k = vk0 at *
  generalize x0.v.i = vi0 at *
  generalize x0.l.length = ln0 at *
  obtain ⟨a0, a1, a2, a3, a4, a5, a6⟩ := q1.cells
  have HW1 := Lib.hid hW1
  have HB := Lib.hid r1
  clear hW1 q1 z1 r1 hs hx hlen htx hpl hc hE h
  go_enter Tryz.func41, Tryz.ntmps41
  go_wp2_with (rw [← HW1.out])
  refine (HC.out).mono ?_
  rintro r w2 ⟨rfl, b2⟩
  go_wp2_with fail
  go_ret
  exact ⟨rfl, bthen HB.out b2⟩
set_option maxRecDepth 100000 in
set_option maxHeartbeats 4000000 in
theorem tr_not (x0 : E) (h : TxtR x0) : TxtR (op1 wNot [x0]) := by
  intro u S w hx hlen
  obtain ⟨A, c, rfl, hs⟩ := op_open hx
  obtain ⟨g, off, A', c', rfl, hg, hc, hE⟩ := part_at hs 0 (by simp)
  simp only [List.getElem_cons_zero, Nat.zero_mul, Nat.add_zero, List.length_singleton] at *
  have htx : str (op1 wNot [x0]).txt = ⟨#[78, 79, 84, 32]⟩ ++ str x0.prt := by
    have e : (op1 wNot [x0]).txt = ([78, 79, 84, 32] : List UInt8) ++ x0.prt := by rfl
    rw [e]
    simp only [← str_app]
    rfl
  have hpl : x0.prt.length ≤ 10000000000 := by
    have := congrArg ByteArray.size htx
    simp only [ByteArray.size_append, str_size] at this
    omega
  obtain ⟨W1, hW1, q1, z1, r1⟩ := box7 w (.string ⟨#[110, 111, 116]⟩) (.int .i64 0) (.int .i64 0) (.string ⟨#[]⟩) (.string ⟨#[]⟩) (.string ⟨#[]⟩) (.slice (some ⟨g, off, none⟩) 1 c)
  have HC := Lib.hid (rPart x0 h _ S W1 (hE.later r1) hpl)
  obtain ⟨i0, i1, i2, i3, i4, i5, i6⟩ := hc.later hg r1
  have hz : (str x0.prt).size ≤ 10000000000 := by rw [str_size]; exact hpl
  have hcat1 : ¬ (9223372036854775807 < 4 + (str x0.prt).size) := by omega
  have hcat2 : ¬ (9223372036854775807 < 4 + (str x0.prt).size + 0) := by omega
  have hcat3 : ¬ (9223372036854775807 < (str x0.prt).size + 0) := by omega
  rw [htx]
  show Calls Tryz.prog 41 #[.agg #[.string ⟨#[110, 111, 116]⟩, .int .i64 0, .int .i64 0, .string ⟨#[]⟩, .string ⟨#[]⟩, .string ⟨#[]⟩, .slice (some ⟨g, off, none⟩) 1 c]] w _
  unfold eVal at HC
  generalize str x0.prt = tx at *
  generalize str x0.op = bo0 at *
  generalize str x0.tb = bt0 at *
  generalize str x0.nm = bn0 at *
  generalize str x0.v.s = bs0 at *
  generalize x0.v.k = vk0 at *
  generalize x0.v.i = vi0 at *
  generalize x0.l.length = ln0 at *
  obtain ⟨a0, a1, a2, a3, a4, a5, a6⟩ := q1.cells
  have HW1 := Lib.hid hW1
  have HB := Lib.hid r1
  clear hW1 q1 z1 r1 hs hx hlen htx hpl hc hE h
  go_enter Tryz.func41, Tryz.ntmps41
  go_wp2_with (rw [← HW1.out])
  refine (HC.out).mono ?_
  rintro r w2 ⟨rfl, b2⟩
  go_wp2_with fail
  go_ret
  exact ⟨rfl, bthen HB.out b2⟩
set_option maxRecDepth 100000 in
set_option maxHeartbeats 4000000 in
theorem tr_isn (x0 : E) (h : TxtR x0) : TxtR (op1 wIsnull [x0]) := by
  intro u S w hx hlen
  obtain ⟨A, c, rfl, hs⟩ := op_open hx
  obtain ⟨g, off, A', c', rfl, hg, hc, hE⟩ := part_at hs 0 (by simp)
  simp only [List.getElem_cons_zero, Nat.zero_mul, Nat.add_zero, List.length_singleton] at *
  have htx : str (op1 wIsnull [x0]).txt = str x0.prt ++ ⟨#[32, 73, 83, 32, 78, 85, 76, 76]⟩ := by
    have e : (op1 wIsnull [x0]).txt = x0.prt ++ ([32, 73, 83, 32, 78, 85, 76, 76] : List UInt8) := by rfl
    rw [e]
    simp only [← str_app]
    rfl
  have hpl : x0.prt.length ≤ 10000000000 := by
    have := congrArg ByteArray.size htx
    simp only [ByteArray.size_append, str_size] at this
    omega
  obtain ⟨W1, hW1, q1, z1, r1⟩ := box7 w (.string ⟨#[105, 115, 110, 117, 108, 108]⟩) (.int .i64 0) (.int .i64 0) (.string ⟨#[]⟩) (.string ⟨#[]⟩) (.string ⟨#[]⟩) (.slice (some ⟨g, off, none⟩) 1 c)
  have HC := Lib.hid (rPart x0 h _ S W1 (hE.later r1) hpl)
  obtain ⟨i0, i1, i2, i3, i4, i5, i6⟩ := hc.later hg r1
  have hz : (str x0.prt).size ≤ 10000000000 := by rw [str_size]; exact hpl
  have hcat1 : ¬ (9223372036854775807 < 0 + (str x0.prt).size) := by omega
  have hcat2 : ¬ (9223372036854775807 < 0 + (str x0.prt).size + 8) := by omega
  have hcat3 : ¬ (9223372036854775807 < (str x0.prt).size + 8) := by omega
  rw [htx]
  show Calls Tryz.prog 41 #[.agg #[.string ⟨#[105, 115, 110, 117, 108, 108]⟩, .int .i64 0, .int .i64 0, .string ⟨#[]⟩, .string ⟨#[]⟩, .string ⟨#[]⟩, .slice (some ⟨g, off, none⟩) 1 c]] w _
  unfold eVal at HC
  generalize str x0.prt = tx at *
  generalize str x0.op = bo0 at *
  generalize str x0.tb = bt0 at *
  generalize str x0.nm = bn0 at *
  generalize str x0.v.s = bs0 at *
  generalize x0.v.k = vk0 at *
  generalize x0.v.i = vi0 at *
  generalize x0.l.length = ln0 at *
  obtain ⟨a0, a1, a2, a3, a4, a5, a6⟩ := q1.cells
  have HW1 := Lib.hid hW1
  have HB := Lib.hid r1
  clear hW1 q1 z1 r1 hs hx hlen htx hpl hc hE h
  go_enter Tryz.func41, Tryz.ntmps41
  go_wp2_with (rw [← HW1.out])
  refine (HC.out).mono ?_
  rintro r w2 ⟨rfl, b2⟩
  go_wp2_with fail
  go_ret
  exact ⟨rfl, bthen HB.out b2⟩
set_option maxRecDepth 100000 in
set_option maxHeartbeats 4000000 in
theorem tr_nn (x0 : E) (h : TxtR x0) : TxtR (op1 wNotnull [x0]) := by
  intro u S w hx hlen
  obtain ⟨A, c, rfl, hs⟩ := op_open hx
  obtain ⟨g, off, A', c', rfl, hg, hc, hE⟩ := part_at hs 0 (by simp)
  simp only [List.getElem_cons_zero, Nat.zero_mul, Nat.add_zero, List.length_singleton] at *
  have htx : str (op1 wNotnull [x0]).txt = str x0.prt ++ ⟨#[32, 73, 83, 32, 78, 79, 84, 32, 78, 85, 76, 76]⟩ := by
    have e : (op1 wNotnull [x0]).txt = x0.prt ++ ([32, 73, 83, 32, 78, 79, 84, 32, 78, 85, 76, 76] : List UInt8) := by rfl
    rw [e]
    simp only [← str_app]
    rfl
  have hpl : x0.prt.length ≤ 10000000000 := by
    have := congrArg ByteArray.size htx
    simp only [ByteArray.size_append, str_size] at this
    omega
  obtain ⟨W1, hW1, q1, z1, r1⟩ := box7 w (.string ⟨#[110, 111, 116, 110, 117, 108, 108]⟩) (.int .i64 0) (.int .i64 0) (.string ⟨#[]⟩) (.string ⟨#[]⟩) (.string ⟨#[]⟩) (.slice (some ⟨g, off, none⟩) 1 c)
  have HC := Lib.hid (rPart x0 h _ S W1 (hE.later r1) hpl)
  obtain ⟨i0, i1, i2, i3, i4, i5, i6⟩ := hc.later hg r1
  have hz : (str x0.prt).size ≤ 10000000000 := by rw [str_size]; exact hpl
  have hcat1 : ¬ (9223372036854775807 < 0 + (str x0.prt).size) := by omega
  have hcat2 : ¬ (9223372036854775807 < 0 + (str x0.prt).size + 12) := by omega
  have hcat3 : ¬ (9223372036854775807 < (str x0.prt).size + 12) := by omega
  rw [htx]
  show Calls Tryz.prog 41 #[.agg #[.string ⟨#[110, 111, 116, 110, 117, 108, 108]⟩, .int .i64 0, .int .i64 0, .string ⟨#[]⟩, .string ⟨#[]⟩, .string ⟨#[]⟩, .slice (some ⟨g, off, none⟩) 1 c]] w _
  unfold eVal at HC
  generalize str x0.prt = tx at *
  generalize str x0.op = bo0 at *
  generalize str x0.tb = bt0 at *
  generalize str x0.nm = bn0 at *
  generalize str x0.v.s = bs0 at *
  generalize x0.v.k = vk0 at *
  generalize x0.v.i = vi0 at *
  generalize x0.l.length = ln0 at *
  obtain ⟨a0, a1, a2, a3, a4, a5, a6⟩ := q1.cells
  have HW1 := Lib.hid hW1
  have HB := Lib.hid r1
  clear hW1 q1 z1 r1 hs hx hlen htx hpl hc hE h
  go_enter Tryz.func41, Tryz.ntmps41
  go_wp2_with (rw [← HW1.out])
  refine (HC.out).mono ?_
  rintro r w2 ⟨rfl, b2⟩
  go_wp2_with fail
  go_ret
  exact ⟨rfl, bthen HB.out b2⟩
end Go.Proofs.YtcnpoinocnfnjaaGreatDoor
namespace Go.Proofs.YtcnpoinocnfnjaaGreatDoor
open Go.RowKit
set_option maxRecDepth 100000 in
set_option maxHeartbeats 16000000 in
theorem tr_two (o : List UInt8) (ho : o ∈ twoOps) (x0 x1 : E) (h0 : TxtR x0) (h1 : TxtR x1) : TxtR (op1 o [x0, x1]) := by
  intro u S w hx hlen
  obtain ⟨A, c, rfl, hs⟩ := op_open hx
  obtain ⟨g, off, A0, c0, rfl, hg, hc0, hE0⟩ := part_at hs 0 (by simp)
  obtain ⟨g', off', A1, c1, hA, -, hc1, hE1⟩ := part_at hs 1 (by simp)
  obtain ⟨rfl, rfl⟩ : g = g' ∧ off = off' := by simp at hA; exact hA
  simp only [List.getElem_cons_zero, List.getElem_cons_succ, Nat.zero_mul, Nat.one_mul, Nat.add_zero, List.length_cons, List.length_nil, Nat.zero_add] at *
  have hol := two_len o ho
  have htx : str (op1 o [x0, x1]).txt = str x0.prt ++ ⟨#[32]⟩ ++ str (o.map upC) ++ ⟨#[32]⟩ ++ str x1.prt := by
    rw [two_txt2 ho, show (⟨#[32]⟩ : ByteArray) = str [32] from rfl, str_app, str_app, str_app, str_app]
    congr 1
    simp
  have hps : x0.prt.length + 1 + o.length + 1 + x1.prt.length ≤ 10000000000 := by
    have := congrArg ByteArray.size htx
    simp only [ByteArray.size_append, str_size, List.length_map] at this
    have e : (⟨#[32]⟩ : ByteArray).size = 1 := rfl
    omega
  obtain ⟨W1, hW1, q1, z1, r1⟩ := box7 w (.string (str o)) (.int .i64 0) (.int .i64 0) (.string ⟨#[]⟩) (.string ⟨#[]⟩) (.string ⟨#[]⟩) (.slice (some ⟨g, off, none⟩) 2 c)
  have HC0 := Lib.hid (fun x : LTx W1 => rPart x0 h0 _ S x.1 ((hE0.later r1).later x.2) (by omega))
  have HC1 := Lib.hid (fun x : LTx W1 => rPart x1 h1 _ S x.1 ((hE1.later r1).later x.2) (by omega))
  have HU := Lib.hid (fun x : LTx W1 => rUpper (str o) x.1 (by rw [str_size]; omega))
  rw [str_list, show (⟨(o.map upC).toArray⟩ : ByteArray) = str (o.map upC) from rfl] at HU
  have F0 := fun x : LTx W1 => ((hc0.later hg r1).later (Nat.lt_of_lt_of_le hg r1.size) x.2)
  have i00 : ∀ x : LTx W1, x.1.cell? ⟨g, off, none⟩ = some (.string (str x0.op)) := fun x => (F0 x).1
  have i01 : ∀ x : LTx W1, x.1.cell? ⟨g, off + 1, none⟩ = some (.int .i64 x0.v.k) := fun x => (F0 x).2.1
  have i02 : ∀ x : LTx W1, x.1.cell? ⟨g, off + 2, none⟩ = some (.int .i64 x0.v.i) := fun x => (F0 x).2.2.1
  have i03 : ∀ x : LTx W1, x.1.cell? ⟨g, off + 3, none⟩ = some (.string (str x0.v.s)) := fun x => (F0 x).2.2.2.1
  have i04 : ∀ x : LTx W1, x.1.cell? ⟨g, off + 4, none⟩ = some (.string (str x0.tb)) := fun x => (F0 x).2.2.2.2.1
  have i05 : ∀ x : LTx W1, x.1.cell? ⟨g, off + 5, none⟩ = some (.string (str x0.nm)) := fun x => (F0 x).2.2.2.2.2.1
  have i06 : ∀ x : LTx W1, x.1.cell? ⟨g, off + 6, none⟩ = some (.slice A0 x0.l.length c0) := fun x => (F0 x).2.2.2.2.2.2
  have F1 := fun x : LTx W1 => ((hc1.later hg r1).later (Nat.lt_of_lt_of_le hg r1.size) x.2)
  have i10 : ∀ x : LTx W1, x.1.cell? ⟨g, off + 7, none⟩ = some (.string (str x1.op)) := fun x => (F1 x).1
  have i11 : ∀ x : LTx W1, x.1.cell? ⟨g, off + 7 + 1, none⟩ = some (.int .i64 x1.v.k) := fun x => (F1 x).2.1
  have k11 : ∀ x : LTx W1, x.1.cell? ⟨g, off + 8, none⟩ = some (.int .i64 x1.v.k) := fun x => (F1 x).2.1
  have i12 : ∀ x : LTx W1, x.1.cell? ⟨g, off + 7 + 2, none⟩ = some (.int .i64 x1.v.i) := fun x => (F1 x).2.2.1
  have k12 : ∀ x : LTx W1, x.1.cell? ⟨g, off + 9, none⟩ = some (.int .i64 x1.v.i) := fun x => (F1 x).2.2.1
  have i13 : ∀ x : LTx W1, x.1.cell? ⟨g, off + 7 + 3, none⟩ = some (.string (str x1.v.s)) := fun x => (F1 x).2.2.2.1
  have k13 : ∀ x : LTx W1, x.1.cell? ⟨g, off + 10, none⟩ = some (.string (str x1.v.s)) := fun x => (F1 x).2.2.2.1
  have i14 : ∀ x : LTx W1, x.1.cell? ⟨g, off + 7 + 4, none⟩ = some (.string (str x1.tb)) := fun x => (F1 x).2.2.2.2.1
  have k14 : ∀ x : LTx W1, x.1.cell? ⟨g, off + 11, none⟩ = some (.string (str x1.tb)) := fun x => (F1 x).2.2.2.2.1
  have i15 : ∀ x : LTx W1, x.1.cell? ⟨g, off + 7 + 5, none⟩ = some (.string (str x1.nm)) := fun x => (F1 x).2.2.2.2.2.1
  have k15 : ∀ x : LTx W1, x.1.cell? ⟨g, off + 12, none⟩ = some (.string (str x1.nm)) := fun x => (F1 x).2.2.2.2.2.1
  have i16 : ∀ x : LTx W1, x.1.cell? ⟨g, off + 7 + 6, none⟩ = some (.slice A1 x1.l.length c1) := fun x => (F1 x).2.2.2.2.2.2
  have k16 : ∀ x : LTx W1, x.1.cell? ⟨g, off + 13, none⟩ = some (.slice A1 x1.l.length c1) := fun x => (F1 x).2.2.2.2.2.2
  have F := fun x : LTx W1 => (q1.later x.2).cells
  have a0 : ∀ x : LTx W1, x.1.cell? ⟨w.heap.size, 0, none⟩ = some (.string (str o)) := fun x => (F x).1
  have a1 : ∀ x : LTx W1, x.1.cell? ⟨w.heap.size, 1, none⟩ = some (.int .i64 0) := fun x => (F x).2.1
  have a2 : ∀ x : LTx W1, x.1.cell? ⟨w.heap.size, 2, none⟩ = some (.int .i64 0) := fun x => (F x).2.2.1
  have a3 : ∀ x : LTx W1, x.1.cell? ⟨w.heap.size, 3, none⟩ = some (.string ⟨#[]⟩) := fun x => (F x).2.2.2.1
  have a4 : ∀ x : LTx W1, x.1.cell? ⟨w.heap.size, 4, none⟩ = some (.string ⟨#[]⟩) := fun x => (F x).2.2.2.2.1
  have a5 : ∀ x : LTx W1, x.1.cell? ⟨w.heap.size, 5, none⟩ = some (.string ⟨#[]⟩) := fun x => (F x).2.2.2.2.2.1
  have a6 : ∀ x : LTx W1, x.1.cell? ⟨w.heap.size, 6, none⟩ = some (.slice (some ⟨g, off, none⟩) 2 c) := fun x => (F x).2.2.2.2.2.2
  have hz0 : (str x0.prt).size = x0.prt.length := str_size _
  have hz1 : (str x1.prt).size = x1.prt.length := str_size _
  have hz2 : (str (o.map upC)).size = o.length := by rw [str_size, List.length_map]
  have hcat1 : ¬ (9223372036854775807 < (str x0.prt).size + 1) := by omega
  have hcat2 : ¬ (9223372036854775807 < (str x0.prt).size + 1 + (str (o.map upC)).size) := by omega
  have hcat3 : ¬ (9223372036854775807 < (str x0.prt).size + 1 + (str (o.map upC)).size + 1) := by omega
  have hcat4 : ¬ (9223372036854775807 < (str x0.prt).size + 1 + (str (o.map upC)).size + 1 + (str x1.prt).size) := by omega
  have hn := two_not o ho
  have hne : ∀ q ∈ [wLit, wCol, wStar, wCall, wNeg, wNot, wIsnull, wNotnull, wIn, wBetween], ((str o).toList == q) = false := fun q hq => by
    rw [Lib.toList_data, str_list, beq_eq_false_iff_ne]; exact hn q hq
  have e0 := hne wLit (by decide)
  have e1 := hne wCol (by decide)
  have e2 := hne wStar (by decide)
  have e3 := hne wCall (by decide)
  have e4 := hne wNeg (by decide)
  have e5 := hne wNot (by decide)
  have e6 := hne wIsnull (by decide)
  have e7 := hne wNotnull (by decide)
  have e8 := hne wIn (by decide)
  have e9 := hne wBetween (by decide)
  simp only [wLit, wCol, wStar, wCall, wNeg, wNot, wIsnull, wNotnull, wIn, wBetween] at e0 e1 e2 e3 e4 e5 e6 e7 e8 e9
  rw [htx]
  unfold eVal at HC0 HC1
  obtain ⟨v0, v1, v2, v3, v4, v5, v6⟩ := q1.cells
  have HNE : Nonempty (LTx W1) := ⟨⟨W1, Below.refl _ _⟩⟩
  clear hlen htx hps hx hs hc0 hc1 hE0 hE1 h0 h1 hol ho hn hne hz0 hz1 hz2 F F0 F1
  generalize str (o.map upC) = tu at *
  generalize str o = bo at *
  generalize str x0.prt = tx0 at *
  generalize str x1.prt = tx1 at *
  generalize str x0.op = bo0 at *
  generalize str x0.tb = bt0 at *
  generalize str x0.nm = bn0 at *
  generalize str x0.v.s = bs0 at *
  generalize x0.v.k = vk0 at *
  generalize x0.v.i = vi0 at *
  generalize x0.l.length = ln0 at *
  generalize str x1.op = bo1 at *
  generalize str x1.tb = bt1 at *
  generalize str x1.nm = bn1 at *
  generalize str x1.v.s = bs1 at *
  generalize x1.v.k = vk1 at *
  generalize x1.v.i = vi1 at *
  generalize x1.l.length = ln1 at *
  have HW1 := Lib.hid hW1
  have HB := Lib.hid r1
  clear hW1 q1 z1 r1
  go_enter Tryz.func41, Tryz.ntmps41
  go_wp2_with (rw [← HW1.out])
  refine wp_region_classx (fun w' => ∃ x : LTx W1, w' = x.1) (by kernel_rfl) (by kernel_rfl) ⟨⟨_, (Below.refl W1.heap.size W1).drew⟩, rfl⟩ ?_
  iterate 5 (go_big_quiet_step ((rename_i x; go_at_call 86; refine (HC0.out x).mono ?_; rintro e w2 ⟨rfl, hb⟩; exact ⟨rfl, ⟨_, bthen x.2 hb⟩, rfl⟩)))
  repeat (go_big_quiet_step ((rename_i x; first | (go_at_call 87; refine (HU.out x).mono ?_; rintro e w2 ⟨rfl, hb⟩; exact ⟨rfl, ⟨_, bthen x.2 hb⟩, rfl⟩) | (go_at_call 86; refine (HC1.out x).mono ?_; rintro e w2 ⟨rfl, hb⟩; exact ⟨rfl, ⟨_, bthen x.2 hb⟩, rfl⟩))))
  refine wpQuiet_nil ?_
  rintro _ ⟨x9, rfl⟩
  go_wp2_with fail
  go_ret
  exact ⟨rfl, bthen HB.out x9.2⟩
theorem lit_txt {v : Vl} (hv : VOk v) : (lit v).txt = BV.txt v.k v.i (str v.s) := (vTxt_eq hv).1
set_option maxRecDepth 100000 in
set_option maxHeartbeats 4000000 in
theorem tr_lit (v : Vl) (hv : VOk v) (hvs : v.s.length ≤ 1000000) : TxtR (lit v) := by
  intro u S w hx hlen
  obtain ⟨A, c, rfl, hs⟩ := hx
  obtain ⟨-, e2, e3, e4⟩ := vTxt_eq hv
  have HC0 := fun W => BV.rText_ok v.k v.i (str v.s) W e2 (by rw [str_size]; exact hvs) e3 e4
  rw [show (⟨(BV.txt v.k v.i (str v.s)).toArray⟩ : ByteArray) = str (BV.txt v.k v.i (str v.s)) from rfl, ← lit_txt hv] at HC0
  have HC := Lib.hid HC0
  show Calls Tryz.prog 41 #[.agg #[.string ⟨#[108, 105, 116]⟩, .int .i64 v.k, .int .i64 v.i, .string (str v.s), .string ⟨#[]⟩, .string ⟨#[]⟩, .slice A 0 c]] w _
  generalize str (lit v).txt = tx at *
  generalize str v.s = bs at *
  generalize v.k = vk at *
  generalize v.i = vi at *
  obtain ⟨W1, hW1, q1, z1, r1⟩ := box7 w (.string ⟨#[108, 105, 116]⟩) (.int .i64 vk) (.int .i64 vi) (.string bs) (.string ⟨#[]⟩) (.string ⟨#[]⟩) (.slice A 0 c)
  obtain ⟨a0, a1, a2, a3, a4, a5, a6⟩ := q1.cells
  have HW1 := Lib.hid hW1
  have HB := Lib.hid r1
  clear hW1 q1 z1 r1 hs hv hvs hlen e2 e3 e4 HC0
  go_enter Tryz.func41, Tryz.ntmps41
  go_wp2_with (rw [← HW1.out])
  refine (HC.out _).mono ?_
  rintro r w2 ⟨rfl, b2⟩
  go_wp2_with fail
  go_ret
  exact ⟨rfl, bthen HB.out b2⟩
set_option maxRecDepth 100000 in
set_option maxHeartbeats 4000000 in
theorem tr_star : TxtR star := by
  intro u S w hx hlen
  obtain ⟨A, c, rfl, hs⟩ := op_open hx
  show Calls Tryz.prog 41 #[.agg #[.string ⟨#[115, 116, 97, 114]⟩, .int .i64 0, .int .i64 0, .string ⟨#[]⟩, .string ⟨#[]⟩, .string ⟨#[]⟩, .slice A 0 c]] w fun r w' => r = .returned (.string ⟨#[42]⟩) ∧ Below w.heap.size w w'
  obtain ⟨W1, hW1, q1, z1, r1⟩ := box7 w (.string ⟨#[115, 116, 97, 114]⟩) (.int .i64 0) (.int .i64 0) (.string ⟨#[]⟩) (.string ⟨#[]⟩) (.string ⟨#[]⟩) (.slice A 0 c)
  obtain ⟨a0, a1, a2, a3, a4, a5, a6⟩ := q1.cells
  have HW1 := Lib.hid hW1
  have HB := Lib.hid r1
  clear hW1 q1 z1 r1 hs hlen hx
  go_enter Tryz.func41, Tryz.ntmps41
  go_wp2_with (rw [← HW1.out])
  go_ret
  exact ⟨rfl, HB.out⟩
set_option maxRecDepth 100000 in
set_option maxHeartbeats 4000000 in
theorem tr_col (t n : List UInt8) (ht : t.length ≤ 1000000) (hn : n.length ≤ 1000000) : TxtR (col t n) := by
  intro u S w hx hlen
  obtain ⟨A, c, rfl, hs⟩ := hx
  have htx : str (col t n).txt = if (t == []) = true then str n else str t ++ ⟨#[46]⟩ ++ str n := by
    have e : (col t n).txt = if t = [] then n else t ++ 46 :: n := rfl
    rw [e]
    by_cases h : t = []
    · subst h; rfl
    · rw [if_neg h, if_neg (by simpa using h), show (⟨#[46]⟩ : ByteArray) = str [46] from rfl, str_app, str_app]; simp
  have hte : ((str t).toList == []) = (t == []) := by rw [Lib.toList_data, str_list]
  have hte2 : ((str t).toList != []) = !(t == []) := by rw [bne, hte]
  have hz1 : (str t).size = t.length := str_size _
  have hz2 : (str n).size = n.length := str_size _
  have hcat1 : ¬ (9223372036854775807 < (str t).size + 1) := by omega
  have hcat2 : ¬ (9223372036854775807 < (str t).size + 1 + (str n).size) := by omega
  rw [htx]
  show Calls Tryz.prog 41 #[.agg #[.string ⟨#[99, 111, 108]⟩, .int .i64 0, .int .i64 0, .string ⟨#[]⟩, .string (str t), .string (str n), .slice A 0 c]] w _
  generalize (t == []) = pt at *
  generalize str t = bt at *
  generalize str n = bn at *
  obtain ⟨W1, hW1, q1, z1, r1⟩ := box7 w (.string ⟨#[99, 111, 108]⟩) (.int .i64 0) (.int .i64 0) (.string ⟨#[]⟩) (.string bt) (.string bn) (.slice A 0 c)
  obtain ⟨a0, a1, a2, a3, a4, a5, a6⟩ := q1.cells
  have HW1 := Lib.hid hW1
  have HB := Lib.hid r1
  clear hW1 q1 z1 r1 hs hlen htx hz1 hz2 ht hn
  cases pt
  · simp only [Bool.not_false, Bool.false_eq_true, if_false] at hte2 ⊢
    go_enter Tryz.func41, Tryz.ntmps41
    go_wp2_with (rw [← HW1.out])
    go_ret
    exact ⟨rfl, HB.out⟩
  · simp only [Bool.not_true, if_true] at hte2 ⊢
    go_enter Tryz.func41, Tryz.ntmps41
    go_wp2_with (rw [← HW1.out])
    go_ret
    exact ⟨rfl, HB.out⟩
set_option maxRecDepth 100000 in
set_option maxHeartbeats 4000000 in
theorem tr_call (n : List UInt8) (l : List E) (hn : n.length ≤ 1000000) (hl : ∀ j (hj : j < l.length), TxtR l[j]) : TxtR (call1 n l) := by
  intro u S w hx hlen
  obtain ⟨A, c, rfl, hs⟩ := hx
  have htx : str (call1 n l).txt = str n ++ ⟨#[40]⟩ ++ str (joinB (txtL l)) ++ ⟨#[41]⟩ := by
    have e : (call1 n l).txt = n ++ brkB (joinB (txtL l)) := rfl
    rw [e, show (⟨#[40]⟩ : ByteArray) = str [40] from rfl, show (⟨#[41]⟩ : ByteArray) = str [41] from rfl, str_app, str_app, str_app]
    congr 1
    simp [brkB]
  have hps : (joinB (txtL l)).length ≤ 10000000000 := by
    have := congrArg ByteArray.size htx
    simp only [ByteArray.size_append, str_size] at this
    omega
  obtain ⟨W1, hW1, q1, z1, r1⟩ := box7 w (.string ⟨#[99, 97, 108, 108]⟩) (.int .i64 0) (.int .i64 0) (.string ⟨#[]⟩) (.string ⟨#[]⟩) (.string (str n)) (.slice A l.length c)
  have hs1 : Sub S w (op1 [] l) A c := hs
  have HC := Lib.hid (fun x : LTx W1 => rTexts l hl S x.1 A c (sub_later (sub_later hs1 r1) x.2) hps)
  have hz1 : (str n).size = n.length := str_size _
  have hz2 : (str (joinB (txtL l))).size = (joinB (txtL l)).length := str_size _
  have hcat1 : ¬ (9223372036854775807 < (str n).size + 1) := by omega
  have hcat2 : ¬ (9223372036854775807 < (str n).size + 1 + (str (joinB (txtL l))).size) := by omega
  have hcat3 : ¬ (9223372036854775807 < (str n).size + 1 + (str (joinB (txtL l))).size + 1) := by omega
  rw [htx]
  show Calls Tryz.prog 41 #[.agg #[.string ⟨#[99, 97, 108, 108]⟩, .int .i64 0, .int .i64 0, .string ⟨#[]⟩, .string ⟨#[]⟩, .string (str n), .slice A l.length c]] w _
  generalize str (joinB (txtL l)) = tx at *
  generalize str n = bn at *
  clear hl hs hs1 hlen htx hps hz1 hz2 hn
  generalize l.length = ln at *
  obtain ⟨v0, v1, v2, v3, v4, v5, v6⟩ := q1.cells
  have F := fun x : LTx W1 => (q1.later x.2).cells
  have a0 : ∀ x : LTx W1, x.1.cell? ⟨w.heap.size, 0, none⟩ = some (.string ⟨#[99, 97, 108, 108]⟩) := fun x => (F x).1
  have a5 : ∀ x : LTx W1, x.1.cell? ⟨w.heap.size, 5, none⟩ = some (.string bn) := fun x => (F x).2.2.2.2.2.1
  have a6 : ∀ x : LTx W1, x.1.cell? ⟨w.heap.size, 6, none⟩ = some (.slice A ln c) := fun x => (F x).2.2.2.2.2.2
  have HNE : Nonempty (LTx W1) := ⟨⟨W1, Below.refl _ _⟩⟩
  have HW1 := Lib.hid hW1
  have HB := Lib.hid r1
  clear hW1 q1 z1 r1 F
  go_enter Tryz.func41, Tryz.ntmps41
  go_wp2_with (rw [← HW1.out])
  refine wp_region_classx (fun w' => ∃ x : LTx W1, w' = x.1) (by kernel_rfl) (by kernel_rfl) ⟨⟨_, (Below.refl W1.heap.size W1).drew⟩, rfl⟩ ?_
  repeat (go_big_quiet_step ((rename_i x; first | (go_at_call 85; refine (HC.out x).mono ?_; rintro e w2 ⟨rfl, hb⟩; exact ⟨rfl, ⟨_, bthen x.2 hb⟩, rfl⟩))))
  refine wpQuiet_nil ?_
  rintro _ ⟨x9, rfl⟩
  go_wp2_with fail
  go_ret
  exact ⟨rfl, bthen HB.out x9.2⟩
end Go.Proofs.YtcnpoinocnfnjaaGreatDoor
namespace Go.Proofs.YtcnpoinocnfnjaaGreatDoor
open Go.RowKit
set_option maxRecDepth 100000 in
set_option maxHeartbeats 16000000 in
theorem tr_btw (x0 x1 x2 : E) (h0 : TxtR x0) (h1 : TxtR x1) (h2 : TxtR x2) : TxtR (op1 wBetween [x0, x1, x2]) := by
  intro u S w hx hlen
  obtain ⟨A, c, rfl, hs⟩ := op_open hx
  obtain ⟨g, off, A0, c0, rfl, hg, hc0, hE0⟩ := part_at hs 0 (by simp)
  obtain ⟨g', off', A1, c1, hA, -, hc1, hE1⟩ := part_at hs 1 (by simp)
  obtain ⟨rfl, rfl⟩ : g = g' ∧ off = off' := by simp at hA; exact hA
  obtain ⟨g', off', A2, c2, hA', -, hc2, hE2⟩ := part_at hs 2 (by simp)
  obtain ⟨rfl, rfl⟩ : g = g' ∧ off = off' := by simp at hA'; exact hA'
  simp only [List.getElem_cons_zero, List.getElem_cons_succ, Nat.zero_mul, Nat.one_mul, Nat.add_zero, List.length_cons, List.length_nil, Nat.zero_add] at *
  have htx : str (op1 wBetween [x0, x1, x2]).txt = str x0.prt ++ ⟨#[32, 66, 69, 84, 87, 69, 69, 78, 32]⟩ ++ str x1.prt ++ ⟨#[32, 65, 78, 68, 32]⟩ ++ str x2.prt := by
    have e : (op1 wBetween [x0, x1, x2]).txt = x0.prt ++ (bBetween ++ (x1.prt ++ (bAnd ++ x2.prt))) := rfl
    rw [e, show (⟨#[32, 66, 69, 84, 87, 69, 69, 78, 32]⟩ : ByteArray) = str bBetween from rfl, show (⟨#[32, 65, 78, 68, 32]⟩ : ByteArray) = str bAnd from rfl, str_app, str_app, str_app, str_app]
    congr 1
    simp
  have hps : x0.prt.length + 9 + x1.prt.length + 5 + x2.prt.length ≤ 10000000000 := by
    have := congrArg ByteArray.size htx
    simp only [ByteArray.size_append, str_size] at this
    have e : (⟨#[32, 66, 69, 84, 87, 69, 69, 78, 32]⟩ : ByteArray).size = 9 := rfl
    have e' : (⟨#[32, 65, 78, 68, 32]⟩ : ByteArray).size = 5 := rfl
    omega
  obtain ⟨W1, hW1, q1, z1, r1⟩ := box7 w (.string ⟨#[98, 101, 116, 119, 101, 101, 110]⟩) (.int .i64 0) (.int .i64 0) (.string ⟨#[]⟩) (.string ⟨#[]⟩) (.string ⟨#[]⟩) (.slice (some ⟨g, off, none⟩) 3 c)
  have HC0 := Lib.hid (fun x : LTx W1 => rPart x0 h0 _ S x.1 ((hE0.later r1).later x.2) (by omega))
  have HC1 := Lib.hid (fun x : LTx W1 => rPart x1 h1 _ S x.1 ((hE1.later r1).later x.2) (by omega))
  have HC2 := Lib.hid (fun x : LTx W1 => rPart x2 h2 _ S x.1 ((hE2.later r1).later x.2) (by omega))
  have F0 := fun x : LTx W1 => ((hc0.later hg r1).later (Nat.lt_of_lt_of_le hg r1.size) x.2)
  have i00 : ∀ x : LTx W1, x.1.cell? ⟨g, off, none⟩ = some (.string (str x0.op)) := fun x => (F0 x).1
  have i01 : ∀ x : LTx W1, x.1.cell? ⟨g, off + 1, none⟩ = some (.int .i64 x0.v.k) := fun x => (F0 x).2.1
  have i02 : ∀ x : LTx W1, x.1.cell? ⟨g, off + 2, none⟩ = some (.int .i64 x0.v.i) := fun x => (F0 x).2.2.1
  have i03 : ∀ x : LTx W1, x.1.cell? ⟨g, off + 3, none⟩ = some (.string (str x0.v.s)) := fun x => (F0 x).2.2.2.1
  have i04 : ∀ x : LTx W1, x.1.cell? ⟨g, off + 4, none⟩ = some (.string (str x0.tb)) := fun x => (F0 x).2.2.2.2.1
  have i05 : ∀ x : LTx W1, x.1.cell? ⟨g, off + 5, none⟩ = some (.string (str x0.nm)) := fun x => (F0 x).2.2.2.2.2.1
  have i06 : ∀ x : LTx W1, x.1.cell? ⟨g, off + 6, none⟩ = some (.slice A0 x0.l.length c0) := fun x => (F0 x).2.2.2.2.2.2
  have F1 := fun x : LTx W1 => ((hc1.later hg r1).later (Nat.lt_of_lt_of_le hg r1.size) x.2)
  have i10 : ∀ x : LTx W1, x.1.cell? ⟨g, off + 7, none⟩ = some (.string (str x1.op)) := fun x => (F1 x).1
  have i11 : ∀ x : LTx W1, x.1.cell? ⟨g, off + 7 + 1, none⟩ = some (.int .i64 x1.v.k) := fun x => (F1 x).2.1
  have k11 : ∀ x : LTx W1, x.1.cell? ⟨g, off + 8, none⟩ = some (.int .i64 x1.v.k) := fun x => (F1 x).2.1
  have i12 : ∀ x : LTx W1, x.1.cell? ⟨g, off + 7 + 2, none⟩ = some (.int .i64 x1.v.i) := fun x => (F1 x).2.2.1
  have k12 : ∀ x : LTx W1, x.1.cell? ⟨g, off + 9, none⟩ = some (.int .i64 x1.v.i) := fun x => (F1 x).2.2.1
  have i13 : ∀ x : LTx W1, x.1.cell? ⟨g, off + 7 + 3, none⟩ = some (.string (str x1.v.s)) := fun x => (F1 x).2.2.2.1
  have k13 : ∀ x : LTx W1, x.1.cell? ⟨g, off + 10, none⟩ = some (.string (str x1.v.s)) := fun x => (F1 x).2.2.2.1
  have i14 : ∀ x : LTx W1, x.1.cell? ⟨g, off + 7 + 4, none⟩ = some (.string (str x1.tb)) := fun x => (F1 x).2.2.2.2.1
  have k14 : ∀ x : LTx W1, x.1.cell? ⟨g, off + 11, none⟩ = some (.string (str x1.tb)) := fun x => (F1 x).2.2.2.2.1
  have i15 : ∀ x : LTx W1, x.1.cell? ⟨g, off + 7 + 5, none⟩ = some (.string (str x1.nm)) := fun x => (F1 x).2.2.2.2.2.1
  have k15 : ∀ x : LTx W1, x.1.cell? ⟨g, off + 12, none⟩ = some (.string (str x1.nm)) := fun x => (F1 x).2.2.2.2.2.1
  have i16 : ∀ x : LTx W1, x.1.cell? ⟨g, off + 7 + 6, none⟩ = some (.slice A1 x1.l.length c1) := fun x => (F1 x).2.2.2.2.2.2
  have k16 : ∀ x : LTx W1, x.1.cell? ⟨g, off + 13, none⟩ = some (.slice A1 x1.l.length c1) := fun x => (F1 x).2.2.2.2.2.2
  have F2 := fun x : LTx W1 => ((hc2.later hg r1).later (Nat.lt_of_lt_of_le hg r1.size) x.2)
  have i20 : ∀ x : LTx W1, x.1.cell? ⟨g, off + 14, none⟩ = some (.string (str x2.op)) := fun x => (F2 x).1
  have i21 : ∀ x : LTx W1, x.1.cell? ⟨g, off + 14 + 1, none⟩ = some (.int .i64 x2.v.k) := fun x => (F2 x).2.1
  have k21 : ∀ x : LTx W1, x.1.cell? ⟨g, off + 15, none⟩ = some (.int .i64 x2.v.k) := fun x => (F2 x).2.1
  have i22 : ∀ x : LTx W1, x.1.cell? ⟨g, off + 14 + 2, none⟩ = some (.int .i64 x2.v.i) := fun x => (F2 x).2.2.1
  have k22 : ∀ x : LTx W1, x.1.cell? ⟨g, off + 16, none⟩ = some (.int .i64 x2.v.i) := fun x => (F2 x).2.2.1
  have i23 : ∀ x : LTx W1, x.1.cell? ⟨g, off + 14 + 3, none⟩ = some (.string (str x2.v.s)) := fun x => (F2 x).2.2.2.1
  have k23 : ∀ x : LTx W1, x.1.cell? ⟨g, off + 17, none⟩ = some (.string (str x2.v.s)) := fun x => (F2 x).2.2.2.1
  have i24 : ∀ x : LTx W1, x.1.cell? ⟨g, off + 14 + 4, none⟩ = some (.string (str x2.tb)) := fun x => (F2 x).2.2.2.2.1
  have k24 : ∀ x : LTx W1, x.1.cell? ⟨g, off + 18, none⟩ = some (.string (str x2.tb)) := fun x => (F2 x).2.2.2.2.1
  have i25 : ∀ x : LTx W1, x.1.cell? ⟨g, off + 14 + 5, none⟩ = some (.string (str x2.nm)) := fun x => (F2 x).2.2.2.2.2.1
  have k25 : ∀ x : LTx W1, x.1.cell? ⟨g, off + 19, none⟩ = some (.string (str x2.nm)) := fun x => (F2 x).2.2.2.2.2.1
  have i26 : ∀ x : LTx W1, x.1.cell? ⟨g, off + 14 + 6, none⟩ = some (.slice A2 x2.l.length c2) := fun x => (F2 x).2.2.2.2.2.2
  have k26 : ∀ x : LTx W1, x.1.cell? ⟨g, off + 20, none⟩ = some (.slice A2 x2.l.length c2) := fun x => (F2 x).2.2.2.2.2.2
  have F := fun x : LTx W1 => (q1.later x.2).cells
  have a0 : ∀ x : LTx W1, x.1.cell? ⟨w.heap.size, 0, none⟩ = some (.string ⟨#[98, 101, 116, 119, 101, 101, 110]⟩) := fun x => (F x).1
  have a1 : ∀ x : LTx W1, x.1.cell? ⟨w.heap.size, 1, none⟩ = some (.int .i64 0) := fun x => (F x).2.1
  have a2 : ∀ x : LTx W1, x.1.cell? ⟨w.heap.size, 2, none⟩ = some (.int .i64 0) := fun x => (F x).2.2.1
  have a3 : ∀ x : LTx W1, x.1.cell? ⟨w.heap.size, 3, none⟩ = some (.string ⟨#[]⟩) := fun x => (F x).2.2.2.1
  have a4 : ∀ x : LTx W1, x.1.cell? ⟨w.heap.size, 4, none⟩ = some (.string ⟨#[]⟩) := fun x => (F x).2.2.2.2.1
  have a5 : ∀ x : LTx W1, x.1.cell? ⟨w.heap.size, 5, none⟩ = some (.string ⟨#[]⟩) := fun x => (F x).2.2.2.2.2.1
  have a6 : ∀ x : LTx W1, x.1.cell? ⟨w.heap.size, 6, none⟩ = some (.slice (some ⟨g, off, none⟩) 3 c) := fun x => (F x).2.2.2.2.2.2
  have hz0 : (str x0.prt).size = x0.prt.length := str_size _
  have hz1 : (str x1.prt).size = x1.prt.length := str_size _
  have hz2 : (str x2.prt).size = x2.prt.length := str_size _
  have hcat1 : ¬ (9223372036854775807 < (str x0.prt).size + 9) := by omega
  have hcat2 : ¬ (9223372036854775807 < (str x0.prt).size + 9 + (str x1.prt).size) := by omega
  have hcat3 : ¬ (9223372036854775807 < (str x0.prt).size + 9 + (str x1.prt).size + 5) := by omega
  have hcat4 : ¬ (9223372036854775807 < (str x0.prt).size + 9 + (str x1.prt).size + 5 + (str x2.prt).size) := by omega
  rw [htx]
  show Calls Tryz.prog 41 #[.agg #[.string ⟨#[98, 101, 116, 119, 101, 101, 110]⟩, .int .i64 0, .int .i64 0, .string ⟨#[]⟩, .string ⟨#[]⟩, .string ⟨#[]⟩, .slice (some ⟨g, off, none⟩) 3 c]] w _
  unfold eVal at HC0 HC1 HC2
  obtain ⟨v0, v1, v2, v3, v4, v5, v6⟩ := q1.cells
  have HNE : Nonempty (LTx W1) := ⟨⟨W1, Below.refl _ _⟩⟩
  clear hlen htx hps hx hs hc0 hc1 hc2 hE0 hE1 hE2 h0 h1 h2 hz0 hz1 hz2 F F0 F1 F2
  generalize str x0.prt = tx0 at *
  generalize str x1.prt = tx1 at *
  generalize str x2.prt = tx2 at *
  generalize str x0.op = bo0 at *
  generalize str x0.tb = bt0 at *
  generalize str x0.nm = bn0 at *
  generalize str x0.v.s = bs0 at *
  generalize x0.v.k = vk0 at *
  generalize x0.v.i = vi0 at *
  generalize x0.l.length = ln0 at *
  generalize str x1.op = bo1 at *
  generalize str x1.tb = bt1 at *
  generalize str x1.nm = bn1 at *
  generalize str x1.v.s = bs1 at *
  generalize x1.v.k = vk1 at *
  generalize x1.v.i = vi1 at *
  generalize x1.l.length = ln1 at *
  generalize str x2.op = bo2 at *
  generalize str x2.tb = bt2 at *
  generalize str x2.nm = bn2 at *
  generalize str x2.v.s = bs2 at *
  generalize x2.v.k = vk2 at *
  generalize x2.v.i = vi2 at *
  generalize x2.l.length = ln2 at *
  have HW1 := Lib.hid hW1
  have HB := Lib.hid r1
  clear hW1 q1 z1 r1
  go_enter Tryz.func41, Tryz.ntmps41
  go_wp2_with (rw [← HW1.out])
  refine wp_region_classx (fun w' => ∃ x : LTx W1, w' = x.1) (by kernel_rfl) (by kernel_rfl) ⟨⟨_, (Below.refl W1.heap.size W1).drew⟩, rfl⟩ ?_
  iterate 5 (go_big_quiet_step ((rename_i x; go_at_call 86; refine (HC0.out x).mono ?_; rintro e w2 ⟨rfl, hb⟩; exact ⟨rfl, ⟨_, bthen x.2 hb⟩, rfl⟩)))
  iterate 6 (go_big_quiet_step ((rename_i x; go_at_call 86; refine (HC1.out x).mono ?_; rintro e w2 ⟨rfl, hb⟩; exact ⟨rfl, ⟨_, bthen x.2 hb⟩, rfl⟩)))
  repeat (go_big_quiet_step ((rename_i x; go_at_call 86; refine (HC2.out x).mono ?_; rintro e w2 ⟨rfl, hb⟩; exact ⟨rfl, ⟨_, bthen x.2 hb⟩, rfl⟩)))
  refine wpQuiet_nil ?_
  rintro _ ⟨x9, rfl⟩
  go_wp2_with fail
  go_ret
  exact ⟨rfl, bthen HB.out x9.2⟩
end Go.Proofs.YtcnpoinocnfnjaaGreatDoor
namespace Go.Proofs.YtcnpoinocnfnjaaGreatDoor
open Go.RowKit
theorem sub_tail {S : Nat → Prop} {w : World} {y : E} {l : List E} {g off c : Nat} (h : Sub S w (op1 [] (y :: l)) (some ⟨g, off, none⟩) c) : Sub S w (op1 [] l) (some ⟨g, off + 7, none⟩) (c - 1) := by
  obtain ⟨h1, h2, h3⟩ := Sub.eq.1 h
  simp only [op1, E.l, List.length_cons] at h1 h3
  obtain ⟨g', off', hA, hS, hg, hl⟩ := h3 (by omega)
  simp at hA
  obtain ⟨rfl, rfl⟩ := hA
  exact Sub.eq.2 ⟨by simp only [op1, E.l]; omega, by omega, fun _ => ⟨g, off + 7, rfl, hS, hg, hl.2⟩⟩
set_option maxRecDepth 100000 in
set_option maxHeartbeats 16000000 in
theorem tr_in (x0 : E) (l : List E) (hne : l ≠ []) (h0 : TxtR x0) (hl : ∀ j (hj : j < l.length), TxtR l[j]) : TxtR (op1 wIn (x0 :: l)) := by
  intro u S w hx hlen
  obtain ⟨A, c, rfl, hs⟩ := op_open hx
  obtain ⟨g, off, A0, c0, rfl, hg, hc0, hE0⟩ := part_at hs 0 (by simp)
  have hst := sub_tail hs
  obtain ⟨hcap0, hcm, -⟩ := Sub.eq.1 hs
  have hcap : l.length + 1 ≤ c := hcap0
  have hcm2 : c ≤ 9223372036854775807 := hcm
  clear hcap0
  simp only [List.getElem_cons_zero, Nat.zero_mul, Nat.add_zero, List.length_cons] at *
  have hl0 : 1 ≤ l.length := by
    rcases l with _ | ⟨a, l⟩
    · exact absurd rfl hne
    · simp
  have htx : str (op1 wIn (x0 :: l)).txt = str x0.prt ++ ⟨#[32, 73, 78, 32, 40]⟩ ++ str (joinB (txtL l)) ++ ⟨#[41]⟩ := by
    have e : (op1 wIn (x0 :: l)).txt = x0.prt ++ (bIn ++ brkB (joinB (txtL l))) := rfl
    rw [e, show (⟨#[32, 73, 78, 32, 40]⟩ : ByteArray) = str (bIn ++ [40]) from rfl, show (⟨#[41]⟩ : ByteArray) = str [41] from rfl, str_app, str_app, str_app]
    congr 1
    simp [brkB]
  have hps : x0.prt.length + 5 + (joinB (txtL l)).length + 1 ≤ 10000000000 := by
    have := congrArg ByteArray.size htx
    simp only [ByteArray.size_append, str_size] at this
    have e : (⟨#[32, 73, 78, 32, 40]⟩ : ByteArray).size = 5 := rfl
    have e' : (⟨#[41]⟩ : ByteArray).size = 1 := rfl
    omega
  obtain ⟨W1, hW1, q1, z1, r1⟩ := box7 w (.string ⟨#[105, 110]⟩) (.int .i64 0) (.int .i64 0) (.string ⟨#[]⟩) (.string ⟨#[]⟩) (.string ⟨#[]⟩) (.slice (some ⟨g, off, none⟩) (l.length + 1) c)
  have HC0 := Lib.hid (fun x : LTx W1 => rPart x0 h0 _ S x.1 ((hE0.later r1).later x.2) (by omega))
  have HC1 := Lib.hid (fun x : LTx W1 => rTexts l hl S x.1 _ _ (sub_later (e := op1 [] l) (sub_later (e := op1 [] l) hst r1) x.2) (by omega))
  have F0 := fun x : LTx W1 => ((hc0.later hg r1).later (Nat.lt_of_lt_of_le hg r1.size) x.2)
  have i00 : ∀ x : LTx W1, x.1.cell? ⟨g, off, none⟩ = some (.string (str x0.op)) := fun x => (F0 x).1
  have i01 : ∀ x : LTx W1, x.1.cell? ⟨g, off + 1, none⟩ = some (.int .i64 x0.v.k) := fun x => (F0 x).2.1
  have i02 : ∀ x : LTx W1, x.1.cell? ⟨g, off + 2, none⟩ = some (.int .i64 x0.v.i) := fun x => (F0 x).2.2.1
  have i03 : ∀ x : LTx W1, x.1.cell? ⟨g, off + 3, none⟩ = some (.string (str x0.v.s)) := fun x => (F0 x).2.2.2.1
  have i04 : ∀ x : LTx W1, x.1.cell? ⟨g, off + 4, none⟩ = some (.string (str x0.tb)) := fun x => (F0 x).2.2.2.2.1
  have i05 : ∀ x : LTx W1, x.1.cell? ⟨g, off + 5, none⟩ = some (.string (str x0.nm)) := fun x => (F0 x).2.2.2.2.2.1
  have i06 : ∀ x : LTx W1, x.1.cell? ⟨g, off + 6, none⟩ = some (.slice A0 x0.l.length c0) := fun x => (F0 x).2.2.2.2.2.2
  have F := fun x : LTx W1 => (q1.later x.2).cells
  have a0 : ∀ x : LTx W1, x.1.cell? ⟨w.heap.size, 0, none⟩ = some (.string ⟨#[105, 110]⟩) := fun x => (F x).1
  have a1 : ∀ x : LTx W1, x.1.cell? ⟨w.heap.size, 1, none⟩ = some (.int .i64 0) := fun x => (F x).2.1
  have a2 : ∀ x : LTx W1, x.1.cell? ⟨w.heap.size, 2, none⟩ = some (.int .i64 0) := fun x => (F x).2.2.1
  have a3 : ∀ x : LTx W1, x.1.cell? ⟨w.heap.size, 3, none⟩ = some (.string ⟨#[]⟩) := fun x => (F x).2.2.2.1
  have a4 : ∀ x : LTx W1, x.1.cell? ⟨w.heap.size, 4, none⟩ = some (.string ⟨#[]⟩) := fun x => (F x).2.2.2.2.1
  have a5 : ∀ x : LTx W1, x.1.cell? ⟨w.heap.size, 5, none⟩ = some (.string ⟨#[]⟩) := fun x => (F x).2.2.2.2.2.1
  have a6 : ∀ x : LTx W1, x.1.cell? ⟨w.heap.size, 6, none⟩ = some (.slice (some ⟨g, off, none⟩) (l.length + 1) c) := fun x => (F x).2.2.2.2.2.2
  have hz0 : (str x0.prt).size = x0.prt.length := str_size _
  have hz1 : (str (joinB (txtL l))).size = (joinB (txtL l)).length := str_size _
  have hcat1 : ¬ (9223372036854775807 < (str x0.prt).size + 5) := by omega
  have hcat2 : ¬ (9223372036854775807 < (str x0.prt).size + 5 + (str (joinB (txtL l))).size) := by omega
  have hcat3 : ¬ (9223372036854775807 < (str x0.prt).size + 5 + (str (joinB (txtL l))).size + 1) := by omega
  rw [htx]
  show Calls Tryz.prog 41 #[.agg #[.string ⟨#[105, 110]⟩, .int .i64 0, .int .i64 0, .string ⟨#[]⟩, .string ⟨#[]⟩, .string ⟨#[]⟩, .slice (some ⟨g, off, none⟩) (l.length + 1) c]] w _
  unfold eVal at HC0
  obtain ⟨v0, v1, v2, v3, v4, v5, v6⟩ := q1.cells
  have HNE : Nonempty (LTx W1) := ⟨⟨W1, Below.refl _ _⟩⟩
  clear hlen htx hps hx hs hc0 hE0 h0 hz0 hz1 F F0 hst hcm hne hl
  generalize str x0.prt = tx0 at *
  generalize str (joinB (txtL l)) = tx1 at *
  generalize str x0.op = bo0 at *
  generalize str x0.tb = bt0 at *
  generalize str x0.nm = bn0 at *
  generalize str x0.v.s = bs0 at *
  generalize x0.v.k = vk0 at *
  generalize x0.v.i = vi0 at *
  generalize x0.l.length = ln0 at *
  generalize l.length = ln at *
  have h01 : (0 : Int) < (ln : Int) + 1 := by omega
  have h02 : 0 < ln + 1 := by omega
  have HW1 := Lib.hid hW1
  have HB := Lib.hid r1
  clear hW1 q1 z1 r1
  go_enter Tryz.func41, Tryz.ntmps41
  go_wp2_with (rw [← HW1.out])
  refine wp_region_classx (fun w' => ∃ x : LTx W1, w' = x.1) (by kernel_rfl) (by kernel_rfl) ⟨⟨_, (Below.refl W1.heap.size W1).drew⟩, rfl⟩ ?_
  repeat (go_big_quiet_step ((rename_i x; first | (go_at_call 86; refine (HC0.out x).mono ?_; rintro e w2 ⟨rfl, hb⟩; exact ⟨rfl, ⟨_, bthen x.2 hb⟩, rfl⟩) | (go_at_call 85; refine (HC1.out x).mono ?_; rintro e w2 ⟨rfl, hb⟩; exact ⟨rfl, ⟨_, bthen x.2 hb⟩, rfl⟩))))
  refine wpQuiet_nil ?_
  rintro _ ⟨x9, rfl⟩
  go_wp2_with fail
  go_ret
  exact ⟨rfl, bthen HB.out x9.2⟩
end Go.Proofs.YtcnpoinocnfnjaaGreatDoor
namespace Go.Proofs.YtcnpoinocnfnjaaGreatDoor
open Go.RowKit
theorem rText_fine {e : E} (h : Fine resB e) : e.short = true → TxtR e := by
  have two : ∀ (o : List UInt8) (x y : E), o ∈ twoOps → (x.short = true → TxtR x) → (y.short = true → TxtR y) → (op1 o [x, y]).short = true → TxtR (op1 o [x, y]) := fun o x y ho hx hy hs => by
    simp only [op1, E.short, E.shortL, Bool.and_eq_true, Bool.and_true] at hs
    exact tr_two o ho x y (hx hs.2.1) (hy hs.2.2)
  have one : ∀ (o : List UInt8) (x : E), (op1 o [x]).short = true → x.short = true := fun o x hs => by
    simp only [op1, E.short, E.shortL, Bool.and_eq_true, Bool.and_true] at hs
    exact hs.2
  induction h with
  | lit v hv =>
    intro hs
    simp only [lit, E.short, E.shortL, Bool.and_eq_true, decide_eq_true_eq] at hs
    exact tr_lit v hv hs.1.1.1
  | col t n ht hn =>
    intro hs
    simp only [col, E.short, E.shortL, Bool.and_eq_true, decide_eq_true_eq] at hs
    exact tr_col t n hs.1.1.2 hs.1.2
  | call n l hn hl ih =>
    intro hs
    simp only [call1, E.short, Bool.and_eq_true, decide_eq_true_eq] at hs
    exact tr_call n l hs.1.2 fun j hj => ih l[j] (List.getElem_mem hj) (shortL_get hs.2 j hj)
  | all =>
    intro _
    refine tr_call wCount [star] (by decide) fun j hj => ?_
    have hj0 : j = 0 := by simpa using hj
    subst hj0; exact tr_star
  | neg x hx ih => intro hs; exact tr_neg x (ih (one _ _ hs))
  | not x hx ih => intro hs; exact tr_not x (ih (one _ _ hs))
  | isn x hx ih => intro hs; exact tr_isn x (ih (one _ _ hs))
  | nn x hx ih => intro hs; exact tr_nn x (ih (one _ _ hs))
  | bin w x y hw hx hy ihx ihy => exact two w x y (by unfold twoOps; simp [hw]) ihx ihy
  | rel w x y hw hx hy ihx ihy => exact two w x y (by unfold twoOps; simp [hw]) ihx ihy
  | like x y hx hy ihx ihy => exact two wLike x y (by decide) ihx ihy
  | btw x y z hx hy hz ihx ihy ihz =>
    intro hs
    simp only [op1, E.short, E.shortL, Bool.and_eq_true, Bool.and_true] at hs
    exact tr_btw x y z (ihx hs.2.1) (ihy hs.2.2.1) (ihz hs.2.2.2)
  | inn x l hne hx hl ihx ihl =>
    intro hs
    simp only [op1, E.short, E.shortL, Bool.and_eq_true] at hs
    exact tr_in x l hne (ihx hs.2.1) fun j hj => ihl l[j] (List.getElem_mem hj) (shortL_get hs.2.2 j hj)
end Go.Proofs.YtcnpoinocnfnjaaGreatDoor
