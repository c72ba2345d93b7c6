/- Contracts of the reference text at a Text and at a Blob. Condition: texts of no more than a million bytes. -/
import Derived.Test.YtcnpoinocnfnjaaGreatDoorQ40
import Derived.Deep.RegionLaw
namespace Go.Proofs.YtcnpoinocnfnjaaGreatDoor.BV
open Go.RowKit
theorem ext_one (s : ByteArray) (k : Nat) (h : k < s.size) : (s.extract k (k + 1)).data.toList = [s[k]] := by
  have : (s.extract k (k + 1)).data.toList = (s.data.toList.drop k).take 1 := by
    rw [← Lib.toList_data, Lib.extract_toList]
    simp
  rw [this, List.drop_eq_getElem_cons (by simpa using h)]
  rfl
theorem ba_app (a b : ByteArray) : (a ++ b).data.toList = a.data.toList ++ b.data.toList := by simp
theorem dbl_room {s : ByteArray} {k : Nat} {b : ByteArray} (hs : s.size ≤ 1000000) (h : b.data.toList = [39] ++ dbl (s.data.toList.take k)) : b.size ≤ 2000001 := by
  have := congrArg List.length h
  have h1 := dbl_len (s.data.toList.take k)
  have h2 : b.data.toList.length = b.size := by simp
  have h3 : (s.data.toList.take k).length ≤ s.size := by rw [List.length_take]; have : s.data.toList.length = s.size := (by simp); omega
  rw [List.length_append] at this
  simp only [List.length_cons, List.length_nil] at this
  omega
set_option maxRecDepth 100000 in
set_option maxHeartbeats 1000000 in
theorem rtext3 (i : Int) (s : ByteArray) (hs : s.size ≤ 1000000) (w : World) :
    Calls Tryz.prog 128 #[.agg #[.int .i64 3, .int .i64 i, .string s]] w fun e w' => e = .returned (.string ⟨([39] ++ dbl s.data.toList ++ [39]).toArray⟩) ∧ Below w.heap.size w w' := by
  go_enter Tryz.func128, Tryz.ntmps128
  go_wp2_with fail
  go_loop [4, 5] (fun t i => ∃ (k : Nat) (b : ByteArray), k ≤ s.size ∧ i = .int .i64 (k : Int) ∧ t = .string b ∧ Hid (b.data.toList = [39] ++ dbl (s.data.toList.take k))) (fun _ i => s.size - (intOf i).toNat)
  case atStart => exact ⟨0, ⟨#[39]⟩, Nat.zero_le _, rfl, rfl, by show _ = _; simp [dbl]⟩
  case round =>
    obtain ⟨k, b, hk, rfl, rfl, hd⟩ := hrel
    have hbs := dbl_room hs hd.out
    by_cases hlt : k < s.size
    · have HX : Hid (dbl (s.data.toList.take (k + 1)) = dbl (s.data.toList.take k) ++ (if s[k] = 39 then [39, 39] else [s[k]])) := dbl_snoc _ _ (by simpa using hlt)
      have HE := Lib.hid (ext_one s k hlt)
      have hes : (s.extract k (k + 1)).size = 1 := by simp; omega
      by_cases hq : s[k] = 39
      · have hb : ((s[k].toNat : Int) == 39) = true := by rw [hq]; rfl
        have HQ := Lib.hid hq
        clear hq
        go_wp2_with fail
        go_round
        case rel => exact ⟨k + 1, b ++ s.extract k (k + 1) ++ ⟨#[39]⟩, by omega, by go_num, rfl, by show _ = _; rw [HX.out, if_pos HQ.out, ba_app, ba_app, HE.out, hd.out, HQ.out]; simp⟩
        case measure => simp [intOf]; omega
      · have hb : ((s[k].toNat : Int) == 39) = false := by
          simp only [beq_eq_false_iff_ne]
          intro h
          exact hq (UInt8.toNat_inj.1 (by show s[k].toNat = 39; omega))
        have HQ := Lib.hid hq
        clear hq
        go_wp2_with fail
        go_round
        case rel => exact ⟨k + 1, b ++ s.extract k (k + 1), by omega, by go_num, rfl, by show _ = _; rw [HX.out, if_neg HQ.out, ba_app, HE.out, hd.out]; simp⟩
        case measure => simp [intOf]; omega
    · obtain rfl : k = s.size := by omega
      have HT : Hid (b.data.toList = [39] ++ dbl s.data.toList) := by have h := hd.out; rw [List.take_of_length_le (by simp)] at h; exact h
      go_wp2_with fail
      go_ret
      go_light
      refine ⟨?_, (Below.refl _ w).alloc (Nat.le_refl _) _⟩
      simp
      exact bytes_ext (by rw [ba_app, HT.out]; simp)
theorem conv2 (w : World) (u v : UInt8) (c d : Int) (hc : c = u.toNat) (hd : d = v.toNat) : (convert 67 9 (.slice (some ⟨w.heap.size, 0, none⟩) 2 2)).run Tryz.prog (w.alloc (.cells #[.int .u8 c, .int .u8 d] 5)) = .ok (.string ⟨#[u, v]⟩) (w.alloc (.cells #[.int .u8 c, .int .u8 d] 5)) := by
  subst hc
  subst hd
  have hn : (w.alloc (.cells #[.int .u8 (u.toNat : Int), .int .u8 (v.toNat : Int)] 5)).heap[w.heap.size]? = some (.cells #[.int .u8 (u.toNat : Int), .int .u8 (v.toNat : Int)] 5 (0, 0)) := heap_alloc_new w _
  exact run_convert_bytes_back (P := Tryz.prog) (w.alloc (.cells #[.int .u8 (u.toNat : Int), .int .u8 (v.toNat : Int)] 5)) 67 9 5 ⟨w.heap.size, 0, none⟩ 2 [u, v] Tryz.underlying67 Tryz.underlying5 Tryz.underlying9 (fun j hj => by
    rw [WideShapes.add_plain, Nat.zero_add, Lib.cell_of_heap hn]
    match j, hj with
    | 0, _ => rfl
    | 1, _ => rfl)
theorem conv2d (w : World) (u v : UInt8) (c d : Int) (hc : c = u.toNat) (hd : d = v.toNat) : (convert 67 9 (.slice (some ⟨w.heap.size, 0, none⟩) 2 2)).run Tryz.prog (w.alloc (.cells #[.int .u8 c, .int .u8 d] 5)).drew = .ok (.string ⟨#[u, v]⟩) (w.alloc (.cells #[.int .u8 c, .int .u8 d] 5)).drew := conv2 w.drew u v c d hc hd
theorem hex_room {s : ByteArray} {k : Nat} {b : ByteArray} (hs : s.size ≤ 1000000) (h : b.data.toList = [120, 39] ++ hexs (s.data.toList.take k)) : b.size ≤ 2000002 := by
  have := congrArg List.length h
  have h1 := hexs_len (s.data.toList.take k)
  have h2 : b.data.toList.length = b.size := by simp
  have h3 : (s.data.toList.take k).length ≤ s.size := by rw [List.length_take]; have : s.data.toList.length = s.size := (by simp); omega
  rw [List.length_append] at this
  simp only [List.length_cons, List.length_nil] at this
  omega
set_option maxRecDepth 100000 in
set_option maxHeartbeats 1000000 in
theorem rtext4 (i : Int) (s : ByteArray) (hs : s.size ≤ 1000000) (w : World) :
    Calls Tryz.prog 128 #[.agg #[.int .i64 4, .int .i64 i, .string s]] w fun e w' => e = .returned (.string ⟨([120, 39] ++ hexs s.data.toList ++ [39]).toArray⟩) ∧ Below w.heap.size w w' := by
  have hbox := (box3 (w := w) (a := .int .i64 4) (b := .int .i64 i) (c := .string s) (Below.refl _ _)).2.1.2.2
  have HBOX := Lib.hid hbox
  clear hbox
  go_enter Tryz.func128, Tryz.ntmps128
  go_wp2_with fail
  go_loopw [6, 7] (fun t i wr => ∃ (k : Nat) (b : ByteArray), k ≤ s.size ∧ i = .int .i64 (k : Int) ∧ t = .string b ∧ Below w.heap.size w wr ∧ w.heap.size < wr.heap.size ∧ wr.cell? ⟨w.heap.size, 2, none⟩ = some (.string s) ∧ Hid (b.data.toList = [120, 39] ++ hexs (s.data.toList.take k))) (fun _ i _ => s.size - (intOf i).toNat)
  case atStart => exact ⟨0, ⟨#[120, 39]⟩, Nat.zero_le _, rfl, rfl, (Below.refl _ w).alloc (Nat.le_refl _) _, by simp, HBOX.out, by show _ = _; simp [hexs]⟩
  case round =>
    obtain ⟨k, b, hk, rfl, rfl, hb, hbl, hcell, hd⟩ := hrel
    have hbs := hex_room hs hd.out
    by_cases hlt : k < s.size
    · have HX : Hid (hexs (s.data.toList.take (k + 1)) = hexs (s.data.toList.take k) ++ hex2 s[k]) := hexs_snoc _ _ (by simpa using hlt)
      have hx0 : 0 ≤ (s[k].toNat : Int) / 16 := by omega
      have hx1 : (s[k].toNat : Int) / 16 < 16 := by have := s[k].toNat_lt; omega
      have hy0 : 0 ≤ (s[k].toNat : Int) % 16 := by omega
      have hy1 : (s[k].toNat : Int) % 16 < 16 := by omega
      have hw1 : IntKind.u8.wrap ((s[k].toNat : Int) / 16) = (s[k].toNat : Int) / 16 := IntWalk.u8_in _ (by have := s[k].toNat_lt; omega)
      have hw2 : ((s[k].toNat : Int)).tmod 16 = (s[k].toNat : Int) % 16 := Int.tmod_eq_emod_of_nonneg (by omega)
      have hn1 : ((s[k].toNat : Int) / 16).toNat = s[k].toNat / 16 := by omega
      have hn2 : ((s[k].toNat : Int) % 16).toNat = s[k].toNat % 16 := by omega
      have hcat : ¬ 9223372036854775807 < b.size + 2 := by omega
      have HCELL := Lib.hid (show wr.drew.cell? ⟨w.heap.size, 2, none⟩ = some (.string s) from hcell)
      have kc := conv2d wr (hexd (s[k].toNat / 16)) (hexd (s[k].toNat % 16)) _ _ (hexAt (n := s[k].toNat / 16) (by have := s[k].toNat_lt; show _ < 16; omega)) (hexAt (n := s[k].toNat % 16) (by show _ < 16; omega))
      go_wp2_with fail
      go_region_law (fail)
      all_goals
        go_wp2_with fail
        go_roundw
        case rel => exact ⟨k + 1, b ++ ⟨#[hexd (s[k].toNat / 16), hexd (s[k].toNat % 16)]⟩, by omega, by go_num, rfl, hb.drew.alloc (by simp; omega) _, by simp; omega, (World.cell?_alloc_lt wr.drew _ ⟨w.heap.size, 2, none⟩ (by simpa using hbl)).trans HCELL.out, by show _ = _; rw [HX.out, ba_app, hd.out]; simp [hex2]⟩
        case measure => simp [intOf]; omega
    · obtain rfl : k = s.size := by omega
      have HT : Hid (b.data.toList = [120, 39] ++ hexs s.data.toList) := by have h := hd.out; rw [List.take_of_length_le (by simp)] at h; exact h
      go_wp2_with fail
      go_ret
      go_light
      refine ⟨?_, hb⟩
      simp
      exact bytes_ext (by rw [ba_app, HT.out]; simp)
end Go.Proofs.YtcnpoinocnfnjaaGreatDoor.BV
