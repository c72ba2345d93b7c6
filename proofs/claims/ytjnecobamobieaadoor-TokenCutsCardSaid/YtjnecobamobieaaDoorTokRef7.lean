/- Contracts of the reference's sign and one. Condition: the text is no longer than 4096. -/
import Derived.Test.YtjnecobamobieaaDoorTokRef6
import Derived.Test.YtjnecobamobieaaDoorTokMove
namespace Go.Proofs.YtjnecobamobieaaDoor
open Go.RowKit
theorem sig_cell (w : World) (k : Nat) (h : k < signs.length) : (w.alloc (.cells sigV 9)).cell? ⟨w.heap.size, k, none⟩ = some (.string (str signs[k])) := by
  have hn : (w.alloc (.cells sigV 9)).heap[w.heap.size]? = some (.cells sigV 9 (0, 0)) := heap_alloc_new w _
  rw [Lib.cell_of_heap hn]
  exact sigV_get k h
theorem prefix_at (s : ByteArray) (i : Nat) (x : List UInt8) (hi : i ≤ s.size) : x.isPrefixOf (s.data.toList.drop i) = true ↔ i + x.length ≤ s.size ∧ (s.extract i (i + x.length)).data.toList = x := by
  rw [List.isPrefixOf_iff_prefix, List.prefix_iff_eq_take, ext_list, show i + x.length - i = x.length by omega]
  constructor
  · intro h
    have := congrArg List.length h
    rw [List.length_take, List.length_drop, size_list] at this
    exact ⟨by omega, h.symm⟩
  · exact fun h => h.2.symm
theorem signO_yes {l w : List UInt8} (h : sgn l = some w) : signO l = some ⟨5, if w = [33, 61] then [60, 62] else w, 0, w.length⟩ := by
  unfold signO
  rw [h]
  rfl
theorem signO_no {l : List UInt8} (h : sgn l = none) : signO l = none := by
  unfold signO
  rw [h]
  rfl
set_option maxRecDepth 100000 in
set_option maxHeartbeats 4000000 in
theorem rsign_any (s : ByteArray) (i : Nat) (w : World) (hs : s.size ≤ 4096) (hi : i < s.size) : Calls Tryd.prog 44 #[.string s, .int .i64 i] w fun e w' => (∃ v, e = .returned v ∧ Told (signO (s.data.toList.drop i)) i v) ∧ Below w.heap.size w w' := by
  have HPX := Lib.hid (fun x => prefix_at s i x (Nat.le_of_lt hi))
  have HY := Lib.hid (fun w h => signO_yes (l := s.data.toList.drop i) (w := w) h)
  have HN := Lib.hid (fun h => signO_no (l := s.data.toList.drop i) h)
  generalize s.data.toList.drop i = D at *
  have bz := zbox w
  have hb0 := (Below.refl w.heap.size w).alloc (Nat.le_refl _) (.cells #[.int .i64 0, .string ⟨#[]⟩, .int .i64 0, .int .i64 0] 30)
  have hz0 : (w.alloc (.cells #[.int .i64 0, .string ⟨#[]⟩, .int .i64 0, .int .i64 0] 30)).heap.size = w.heap.size + 1 := by simp
  obtain ⟨W1, hW1⟩ : ∃ W1, W1 = w.alloc (.cells #[.int .i64 0, .string ⟨#[]⟩, .int .i64 0, .int .i64 0] 30) := ⟨_, rfl⟩
  rw [← hW1] at bz hb0 hz0
  have HG := Lib.hid (sig_cell W1)
  have hb1 := (Below.refl W1.heap.size W1).alloc (Nat.le_refl _) (.cells sigV 9)
  obtain ⟨W2, hW2⟩ : ∃ W2, W2 = W1.alloc (.cells sigV 9) := ⟨_, rfl⟩
  rw [← hW2] at HG hb1
  unfold sigV at hW2
  have HZ := Lib.hid (bz.later hb1)
  have HB := Lib.hid (hb0.trans (hb1.mono hb0.size))
  have hz2 := hb1.size
  rw [hz0] at HG
  have HW1 := Lib.hid hW1
  have HW2 := Lib.hid hW2
  clear bz hb0 hb1 hW1 hW2
  go_enter Tryd.func44, Tryd.ntmps44
  go_wp2_with (first | (rw [← HW2.out]) | (rw [← HW1.out]))
  go_loopw [12] (fun iv wr => ∃ k : Nat, k ≤ 18 ∧ iv = .int .i64 k ∧ wr = W2 ∧ Hid (NoneYet D k)) (fun iv _ => 18 - (intOf iv).toNat)
  case atStart => exact ⟨0, by omega, rfl, rfl, fun i h hi => by omega⟩
  case round =>
    obtain ⟨k, hk, rfl, rfl, HK⟩ := hrel
    by_cases hlt : k < 18
    · have hk18 : k < signs.length := hlt
      have hc := HG.out k hk18
      have HF := Lib.hid (fun hp => HY.out _ (HK.out.found hk18 hp))
      have HX := Lib.hid (HK.out.next hk18)
      have HP := Lib.hid (HPX.out signs[k])
      have hsl := signs_len (List.getElem_mem hk18)
      generalize signs[k] = x at *
      have hxs := str_size x
      have HXE : Hid ((str x).data.toList = x) := str_list x
      rw [← hxs] at HF HP hsl
      clear HK
      by_cases hle : i + (str x).size ≤ s.size
      · have hlez : (i : Int) + ((str x).size : Int) ≤ (s.size : Int) := by omega
        have HEQ : Hid (((s.extract i (i + (str x).size)).toList == (str x).toList) = true ↔ x.isPrefixOf D = true) := by
          show _ ↔ _
          rw [beq_iff_eq, Lib.toList_data, Lib.toList_data, HXE.out, HP.out]
          exact ⟨fun h => ⟨hle, h⟩, fun h => h.2⟩
        cases he : ((s.extract i (i + (str x).size)).toList == (str x).toList)
        · have HX2 := Lib.hid (HX.out (by rw [← Bool.not_eq_true, ← HEQ.out, he]; decide))
          clear HEQ HP HX HF hxs HXE
          generalize str x = y at *
          go_wp2_with fail
          go_roundw
          case measure => simp [intOf]; omega
          case rel => exact ⟨k + 1, by omega, by go_num, trivial, HX2⟩
        · have hT := told_yes (i := i) (k := i + (str x).size) (HF.out (HEQ.out.1 he)) rfl
          rw [Int.natCast_add] at hT
          by_cases hb : x = [33, 61]
          · subst hb
            simp only [if_pos trivial, show str [33, 61] = ⟨#[33, 61]⟩ from rfl, show str [60, 62] = ⟨#[60, 62]⟩ from rfl, show (⟨#[33, 61]⟩ : ByteArray).size = 2 from rfl] at *
            have HT := Lib.hid hT
            obtain ⟨V2, V3, V4, hV2, hV3, -, ⟨x0, x1, x2, x3⟩, ⟨g0, g1, g2, g3⟩, ⟨y0, y1, y2, y3⟩, -, -, -, hzv⟩ := moved wr ⟨5, [33, 61], 0, i⟩ 0
            simp only [show str [33, 61] = ⟨#[33, 61]⟩ from rfl] at hV3 y1
            have bV3 : Below wr.heap.size wr V3 := by
              rw [hV3, hV2]
              exact Below.set4 ((Below.refl wr.heap.size wr).alloc (Nat.le_refl _) _) (Nat.le_refl _) _ _ _ _
            have yf : V3.frozen? ⟨wr.heap.size, 1, none⟩ = false := by
              rw [hV3, World.frozen?_setCell, World.frozen?_setCell, World.frozen?_setCell, World.frozen?_setCell]
              exact g1
            obtain ⟨V5, hV5⟩ : ∃ V5, V5 = V3.setCell ⟨wr.heap.size, 1, none⟩ (.string ⟨#[60, 62]⟩) := ⟨_, rfl⟩
            have bV5 : Below wr.heap.size wr V5 := by rw [hV5]; exact bV3.setCell (Nat.le_refl _) _
            have o4 := fun (j : Nat) (h : j ≠ 1) => World.cell?_setCell_other V3 ⟨wr.heap.size, 1, none⟩ ⟨wr.heap.size, j, none⟩ (.string ⟨#[60, 62]⟩) (by simp <;> omega)
            have q0 : V5.cell? ⟨wr.heap.size, 0, none⟩ = some (.int .i64 5) := by rw [hV5]; exact (o4 0 (by omega)).trans y0
            have q1 : V5.cell? ⟨wr.heap.size, 1, none⟩ = some (.string ⟨#[60, 62]⟩) := by rw [hV5]; exact World.cell?_setCell_same _ _ _ y1
            have q2 : V5.cell? ⟨wr.heap.size, 2, none⟩ = some (.int .i64 0) := by rw [hV5]; exact (o4 2 (by omega)).trans y2
            have q3 : V5.cell? ⟨wr.heap.size, 3, none⟩ = some (.int .i64 i) := by rw [hV5]; exact (o4 3 (by omega)).trans y3
            have bzr := HZ.out.later bV5
            obtain ⟨c0, c1, c2, c3⟩ := bzr.zcells
            obtain ⟨f0, f1, f2, f3⟩ := bzr.free
            have HB5 := Lib.hid (HB.out.trans (bV5.mono HB.out.size))
            have HV2 := Lib.hid hV2
            have HV3 := Lib.hid hV3
            have HV5 := Lib.hid hV5
            have he2 : ((s.extract i (i + 2)).toList == [33, 61]) = true := by
              have h := he
              rw [show (⟨#[33, 61]⟩ : ByteArray).toList = [33, 61] by rw [Lib.toList_data]] at h
              exact h
            clear hT HEQ HP HX HF hV2 hV3 hV5 bV3 bV5 o4 bzr HXE hxs he
            go_wp2_with (first | (rw [← HV5.out]) | (rw [← HV3.out]) | (rw [← HV2.out]))
            exact bodyPost_ret (v := .tuple #[.agg #[.int .i64 5, .string ⟨#[60, 62]⟩, .int .i64 0, .int .i64 i], .int .i64 ((i : Int) + 2), .bool true]) (by simp [results, Tryd.results44, go_sem, c0, c1, c2, c3]) rfl ⟨⟨_, rfl, HT.out⟩, Below.set4 HB5.out (Nat.le_refl _) _ _ _ _⟩
          · rw [if_neg hb] at hT
            have HT := Lib.hid hT
            have hne : ((str x).toList == [33, 61]) = false := by
              rw [Lib.toList_data, str_list, beq_eq_false_iff_ne]
              exact hb
            obtain ⟨V2, V3, V4, hV2, hV3, -, ⟨x0, x1, x2, x3⟩, ⟨g0, g1, g2, g3⟩, ⟨y0, y1, y2, y3⟩, -, -, -, hzv⟩ := moved wr ⟨5, x, 0, i⟩ 0
            simp only at hV3 y0 y1 y2 y3
            have bV3 : Below wr.heap.size wr V3 := by
              rw [hV3, hV2]
              exact Below.set4 ((Below.refl wr.heap.size wr).alloc (Nat.le_refl _) _) (Nat.le_refl _) _ _ _ _
            have bzr := HZ.out.later bV3
            obtain ⟨c0, c1, c2, c3⟩ := bzr.zcells
            obtain ⟨f0, f1, f2, f3⟩ := bzr.free
            have HB5 := Lib.hid (HB.out.trans (bV3.mono HB.out.size))
            have HV2 := Lib.hid hV2
            have HV3 := Lib.hid hV3
            clear hT HEQ HP HX HF hV2 hV3 bV3 bzr HXE hxs hb
            generalize str x = y at *
            go_wp2_with (first | (rw [← HV3.out]) | (rw [← HV2.out]))
            exact bodyPost_ret (v := .tuple #[.agg #[.int .i64 5, .string y, .int .i64 0, .int .i64 i], .int .i64 ((i : Int) + (y.size : Int)), .bool true]) (by simp [results, Tryd.results44, go_sem, c0, c1, c2, c3]) rfl ⟨⟨_, rfl, HT.out⟩, Below.set4 HB5.out (Nat.le_refl _) _ _ _ _⟩
      · have hlez : ¬ ((i : Int) + ((str x).size : Int) ≤ (s.size : Int)) := by omega
        have HX2 := Lib.hid (HX.out (by rw [← Bool.not_eq_true, HP.out]; exact fun h => hle h.1))
        clear HP HX HF hxs HXE
        generalize str x = y at *
        go_wp2_with fail
        go_roundw
        case measure => simp [intOf]; omega
        case rel => exact ⟨k + 1, by omega, by go_num, trivial, HX2⟩
    · have hkn : k = 18 := by omega
      subst hkn
      have HT := Lib.hid (told_no (i := i) (HN.out HK.out.none) zT 0)
      obtain ⟨c0, c1, c2, c3⟩ := HZ.out.zcells
      obtain ⟨f0, f1, f2, f3⟩ := HZ.out.free
      go_wp2_with fail
      exact bodyPost_ret (v := .tuple #[.agg #[.int .i64 0, .string ⟨#[]⟩, .int .i64 0, .int .i64 0], .int .i64 0, .bool false]) (by simp [results, Tryd.results44, go_sem, c0, c1, c2, c3]) rfl ⟨⟨_, rfl, HT.out⟩, Below.set4 HB.out (Nat.le_refl _) _ _ _ _⟩
end Go.Proofs.YtjnecobamobieaaDoor
