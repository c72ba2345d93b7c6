/- Contracts of the reference Text and RowText, whatever the value or row. Conditions: texts of no more than a million bytes, numbers of 64 bits, rows no longer than the greatest int. -/
import Derived.Test.YtpmigbhfhccegaaDoorRText34
import Derived.Test.YtpmigbhfhccegaaDoorApart
import Derived.Deep.RegionHeld3
namespace Go.Proofs.YtpmigbhfhccegaaDoor
open Go.RowKit
set_option maxRecDepth 100000 in
set_option maxHeartbeats 1000000 in
theorem rtext0 (i : Int) (s : ByteArray) (w : World) :
    Calls Tryd.prog 46 #[.agg #[.int .i64 0, .int .i64 i, .string s]] w fun e w' => e = .returned (.string ⟨#[78, 85, 76, 76]⟩) ∧ Below w.heap.size w w' := by
  go_enter Tryd.func46, Tryd.ntmps46
  go_wp2_with fail
  go_ret
  exact ⟨rfl, (Below.refl _ w).alloc (Nat.le_refl _) _⟩
set_option maxRecDepth 100000 in
set_option maxHeartbeats 1000000 in
theorem rtext1 (i : Int) (s : ByteArray) (w : World) :
    Calls Tryd.prog 46 #[.agg #[.int .i64 1, .int .i64 i, .string s]] w fun e w' => e = .returned (.string (if i = 1 then ⟨#[84, 82, 85, 69]⟩ else ⟨#[70, 65, 76, 83, 69]⟩)) ∧ Below w.heap.size w w' := by
  by_cases h : i = 1
  · subst h
    go_enter Tryd.func46, Tryd.ntmps46
    go_wp2_with fail
    go_ret
    exact ⟨rfl, (Below.refl _ w).alloc (Nat.le_refl _) _⟩
  · have hb : (i == 1) = false := by simpa using h
    rw [if_neg h]
    clear h
    go_enter Tryd.func46, Tryd.ntmps46
    go_wp2_with fail
    go_ret
    exact ⟨rfl, (Below.refl _ w).alloc (Nat.le_refl _) _⟩
set_option maxRecDepth 100000 in
set_option maxHeartbeats 1000000 in
theorem rtext2 (i : Int) (s : ByteArray) (h0 : -9223372036854775808 ≤ i) (h1 : i ≤ 9223372036854775807) (w : World) :
    Calls Tryd.prog 46 #[.agg #[.int .i64 2, .int .i64 i, .string s]] w fun e w' => e = .returned (.string ⟨(Lib.itoa i).toArray⟩) ∧ Below w.heap.size w w' := by
  have h := digits_any i h0 h1
  generalize (Lib.itoa i).toArray = t at *
  go_enter Tryd.func46, Tryd.ntmps46
  go_wp2_with (go_at_call 58; refine (h _).mono ?_; rintro e w1 ⟨rfl, hb⟩)
  go_ret
  exact ⟨rfl, ((Below.refl _ w).alloc (Nat.le_refl _) _).trans (hb.mono (by simp))⟩
theorem rtext_any (k i : Int) (s : ByteArray) (hm : mayB k i s = true) (hs : s.size ≤ 1000000) (h0 : -9223372036854775808 ≤ i) (h1 : i ≤ 9223372036854775807) (w : World) :
    Calls Tryd.prog 46 #[.agg #[.int .i64 k, .int .i64 i, .string s]] w fun e w' => e = .returned (.string ⟨(txt k i s).toArray⟩) ∧ Below w.heap.size w w' := by
  rcases may_cases hm with ⟨rfl, rfl, _⟩ | ⟨rfl, hi, _⟩ | ⟨rfl, _⟩ | ⟨rfl, rfl⟩ | ⟨rfl, rfl⟩
  · exact rtext0 0 s w
  · have h := rtext1 i s w
    rcases hi with rfl | rfl
    · exact h
    · exact h
  · exact rtext2 i s h0 h1 w
  · exact rtext3 0 s hs w
  · exact rtext4 0 s hs w
set_option maxRecDepth 100000 in
set_option maxHeartbeats 1000000 in
theorem rText_ok (k i : Int) (s : ByteArray) (w : World) (hm : mayB k i s = true) (hs : s.size ≤ 1000000) (h0 : -9223372036854775808 ≤ i) (h1 : i ≤ 9223372036854775807) :
    Calls Tryd.prog 28 #[.agg #[.int .i64 k, .int .i64 i, .string s]] w fun e w' => e = .returned (.tuple #[.string ⟨(txt k i s).toArray⟩, .int .i64 0]) ∧ Below w.heap.size w w' := by
  have hc := rcheck_any k i s
  rw [show chkI k i s = 0 by unfold chkI; rw [hm]; rfl] at hc
  have ht := rtext_any k i s hm hs h0 h1
  generalize (txt k i s).toArray = t at *
  clear hm
  go_enter Tryd.func28, Tryd.ntmps28
  go_wp2_with (go_at_call 13; go_must (refine (hc _).mono ?_); rintro e w1 ⟨rfl, hb1⟩; obtain ⟨-, ⟨e0, e1, e2⟩, hb, hz⟩ := box3 hb1; clear hb1)
  refine (ht _).mono ?_
  rintro e w2 ⟨rfl, hb2⟩
  go_wp2_with fail
  go_ret2
  exact ⟨rfl, bthen hb hb2⟩
set_option maxRecDepth 100000 in
set_option maxHeartbeats 1000000 in
theorem rText_bad (k i : Int) (s : ByteArray) (w : World) (hm : mayB k i s = false) :
    Calls Tryd.prog 28 #[.agg #[.int .i64 k, .int .i64 i, .string s]] w fun e w' => e = .returned (.tuple #[.string ⟨#[]⟩, .int .i64 1]) ∧ Below w.heap.size w w' := by
  have hc := rcheck_any k i s
  rw [show chkI k i s = 1 by unfold chkI; rw [hm]; rfl] at hc
  clear hm
  go_enter Tryd.func28, Tryd.ntmps28
  go_wp2_with (go_at_call 13; go_must (refine (hc _).mono ?_); rintro e w1 ⟨rfl, hb1⟩)
  go_ret2
  exact ⟨rfl, ((Below.refl _ w).alloc (Nat.le_refl _) _).trans (hb1.mono (by simp))⟩
theorem rText_any (v : V) (w : World) (hs : v.s.size ≤ 1000000) (hf : v.fits) :
    Calls Tryd.prog 28 #[.agg #[.int .i64 v.k, .int .i64 v.i, .string v.s]] w fun e w' => e = .returned (.tuple #[.string (txtB v), .int .i64 v.chk]) ∧ Below w.heap.size w w' := by
  unfold txtB V.chk chkI
  cases hm : mayB v.k v.i v.s
  · exact rText_bad _ _ _ w hm
  · exact rText_ok _ _ _ w hm hs hf.2.2.1 hf.2.2.2
set_option maxRecDepth 100000 in
set_option maxHeartbeats 1000000 in
theorem rRowText_bad (xs : List V) (A : Option Addr) (c : Nat) (w : World) (hr : RowAt w w.heap.size A xs) (hm : xs.length ≤ 9223372036854775807) (hne : chkR xs ≠ 0) :
    Calls Tryd.prog 30 #[.slice A xs.length c] w fun e w' => e = .returned (.tuple #[.string ⟨#[]⟩, .int .i64 (chkR xs)]) ∧ Below w.heap.size w w' := by
  have hc := rcheckRow_any xs A c w hr hm
  generalize chkR xs = r at *
  generalize xs.length = n at *
  have h1 : (r != 0) = true := by simpa using hne
  clear hne hr hm
  go_enter Tryd.func30, Tryd.ntmps30
  go_wp2_with (go_at_call 19; go_must (refine hc.mono ?_); rintro e w1 ⟨rfl, hb⟩)
  go_ret2
  exact ⟨rfl, hb⟩
theorem body_room {xs : List V} {k : Nat} {b : ByteArray} (hk : k ≤ 64) (h : RowOk xs) (hd : b.data.toList = [40] ++ Go.Proofs.YtpmigbhfhccegaaDoor.body (xs.take k)) : b.size ≤ 200000000 := by
  have h1 := body_len xs h k
  have h2 : b.data.toList.length = b.size := by simp
  have h3 := congrArg List.length hd
  rw [List.length_append] at h3
  simp only [List.length_cons, List.length_nil] at h3
  omega
set_option maxRecDepth 100000 in
set_option maxHeartbeats 1000000 in
theorem rRowText_ok (xs : List V) (A : Option Addr) (c : Nat) (w : World) (hr : RowAt w w.heap.size A xs) (hok : RowOk xs) (hm : xs.length ≤ 64) :
    Calls Tryd.prog 30 #[.slice A xs.length c] w fun e w' => e = .returned (.tuple #[.string ⟨(rowTxt xs).toArray⟩, .int .i64 0]) ∧ Below w.heap.size w w' := by
  have hc := rcheckRow_any xs A c w hr (by omega)
  rw [show chkR xs = 0 by
    unfold chkR
    rw [if_pos (by unfold allOk; rw [List.all_eq_true]; intro v hv; simpa using (hok v hv).1), if_neg (by omega)]] at hc
  have HR := Lib.hid hr
  have HO := Lib.hid hok
  generalize hn : xs.length = n at *
  have HL := Lib.hid hn
  clear hr hok hn
  go_enter Tryd.func30, Tryd.ntmps30
  go_wp2_with (go_at_call 19; go_must (refine hc.mono ?_); rintro e w1 ⟨rfl, hb0⟩)
  go_loopw [5, 15] (fun t i wr => ∃ (k : Nat) (b : ByteArray), k ≤ n ∧ i = .int .i64 (k : Int) ∧ t = .string b ∧ Below w.heap.size w wr ∧ Hid (b.data.toList = [40] ++ Go.Proofs.YtpmigbhfhccegaaDoor.body (xs.take k))) (fun _ i _ => n - (intOf i).toNat)
  case atStart => exact ⟨0, ⟨#[40]⟩, Nat.zero_le _, rfl, rfl, hb0, rfl⟩
  case round =>
    obtain ⟨k, b, hk, rfl, rfl, hb, hd⟩ := hrel
    have hbs := hb.size
    have hroom := body_room (by omega) HO.out hd.out
    by_cases hlt : k < n
    · have hkx : k < xs.length := by rw [HL.out]; exact hlt
      obtain ⟨g, off, hA, hbl, hcl⟩ := HR.out (by omega)
      subst hA
      obtain ⟨c1, c2, c3⟩ := hcl k hkx
      have d1 := (hb.cell (p := ⟨g, _, none⟩) hbl).trans c1
      have d2 := (hb.cell (p := ⟨g, _, none⟩) hbl).trans c2
      have d3 := (hb.cell (p := ⟨g, _, none⟩) hbl).trans c3
      clear c1 c2 c3 hcl
      obtain ⟨hchk, hi0, hi1, hsz⟩ := HO.out xs[k] (List.getElem_mem hkx)
      have ht := rtext_any _ _ _ (chk_may hchk) hsz hi0 hi1
      have htl := txt_len xs[k].k xs[k].i xs[k].s hi0 hi1
      have HT : Hid (Go.Proofs.YtpmigbhfhccegaaDoor.body (xs.take (k + 1)) = Go.Proofs.YtpmigbhfhccegaaDoor.body (xs.take k) ++ ((if 0 < k then [44, 32] else []) ++ Go.Proofs.YtpmigbhfhccegaaDoor.txt xs[k].k xs[k].i xs[k].s)) := body_snoc xs k hkx
      clear hchk
      generalize Go.Proofs.YtpmigbhfhccegaaDoor.txt xs[k].k xs[k].i xs[k].s = tx at *
      have htz : (⟨tx.toArray⟩ : ByteArray).size ≤ 2000021 := by show tx.toArray.size ≤ _; simp; omega
      have htd : (⟨tx.toArray⟩ : ByteArray).data.toList = tx := by simp
      have HTD := Lib.hid htd
      clear htd htl
      generalize (⟨tx.toArray⟩ : ByteArray) = tb at *
      generalize xs[k].k = vk at *
      generalize xs[k].i = vi at *
      generalize xs[k].s = vs at *
      have HTX := Lib.hid ht
      clear ht hi0 hi1
      by_cases h0 : 0 < k
      · have HT2 : Hid (Go.Proofs.YtpmigbhfhccegaaDoor.body (xs.take (k + 1)) = Go.Proofs.YtpmigbhfhccegaaDoor.body (xs.take k) ++ ([44, 32] ++ tx)) := by have h := HT.out; rw [if_pos h0] at h; exact h
        go_wp2_with fail
        refine (HTX.out _).mono ?_
        rintro e w2 ⟨rfl, b2⟩
        go_wp2_with fail
        go_roundw
        case rel => exact ⟨k + 1, b ++ ⟨#[44, 32]⟩ ++ tb, by omega, by go_num, rfl, (hb.alloc hb.size _).trans (b2.mono (by simp; omega)), by show _ = _; rw [HT2.out, ba_app, ba_app, HTD.out, hd.out]; simp⟩
        case measure => simp [intOf]; omega
      · have HT2 : Hid (Go.Proofs.YtpmigbhfhccegaaDoor.body (xs.take (k + 1)) = Go.Proofs.YtpmigbhfhccegaaDoor.body (xs.take k) ++ tx) := by have h := HT.out; rw [if_neg h0] at h; exact h
        go_wp2_with fail
        refine (HTX.out _).mono ?_
        rintro e w2 ⟨rfl, b2⟩
        go_wp2_with fail
        go_roundw
        case rel => exact ⟨k + 1, b ++ tb, by omega, by go_num, rfl, (hb.alloc hb.size _).trans (b2.mono (by simp; omega)), by show _ = _; rw [HT2.out, ba_app, HTD.out, hd.out]; simp⟩
        case measure => simp [intOf]; omega
    · obtain rfl : k = n := by omega
      have HB : Hid (b.data.toList = [40] ++ Go.Proofs.YtpmigbhfhccegaaDoor.body xs) := by have h := hd.out; rw [List.take_of_length_le (by rw [HL.out]; omega)] at h; exact h
      go_wp2_with fail
      go_ret2
      go_light
      refine ⟨?_, hb⟩
      simp
      exact bytes_ext (by rw [ba_app, HB.out]; simp [rowTxt])
end Go.Proofs.YtpmigbhfhccegaaDoor
