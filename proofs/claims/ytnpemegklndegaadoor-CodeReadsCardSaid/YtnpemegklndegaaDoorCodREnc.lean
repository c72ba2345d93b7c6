/- Contracts of the reference's Encode and Key: a row's bytes and its key, or why it has none. Condition: the row's texts have no more than some hundred thousand bytes in all. -/
import Derived.Test.YtnpemegklndegaaDoorCodEnc
import Derived.Test.YtnpemegklndegaaDoorCodRRC
import Derived.Deep.RegionLaw
import Derived.Deep.RegionHeld3
namespace Go.Proofs.YtnpemegklndegaaDoor
open Go.RowKit
theorem wide8 (n : Nat) (w : World) (hn : n < 18446744073709551616) : Calls Tryd.prog 30 #[.int .u64 n, .int .i64 8] w fun e w' => ∃ v, e = .returned v ∧ Own w' w.heap.size v (be n 8) ∧ Below w.heap.size w w' := wide_any n 8 w hn (by omega)
theorem wide4 (n : Nat) (w : World) (hn : n < 18446744073709551616) : Calls Tryd.prog 30 #[.int .u64 n, .int .i64 4] w fun e w' => ∃ v, e = .returned v ∧ Own w' w.heap.size v (be n 4) ∧ Below w.heap.size w w' := wide_any n 4 w hn (by omega)
theorem step_append_run {ops : Array Oper} (w : World) {o : Oper} {a : Act} {K : Act → World → Prop} {Q : Exit → Act → World → Prop} {E : Prop} (hgd : o.guard = none) (s x : Operand) (t u : TypeId)
    (ho : o.op = .call { callee := .builtin .append, args := #[s, x], argTypes := #[t, u] }) (v y : Value) (hs : a.eval s = v) (hx : a.eval x = y) {v' : Value} {w' : World}
    (hr : (Builtin.append_ #[t, u] o.type #[v, y]).run Tryd.prog w = .ok v' w') (h : K (a.put o.dst v') w') : if Region.wanted o (yielded ops a.tmps) = true then Oper.wp Tryd.prog o a w K Q else E := by
  have hw : Region.wanted o (yielded ops a.tmps) = true := by simp [Region.wanted, hgd]
  rw [if_pos hw]
  unfold Oper.wp execOp
  simp only [ho, resolve, invoke, builtin, Sem.run_bind, Sem.run_pure, Result.andThen_ok, List.map_toArray, List.map_cons, List.map_nil, hs, hx, hr]
  exact h
theorem toU_wrap (i : Int) : IntKind.u64.wrap i = ((toU i : Nat) : Int) := by rw [IntKind.wrap_u64]; unfold toU; omega
theorem trn_no (n : Nat) : trn false n = n := rfl
/-- The block of what was written is none that was there before, but the bytes' own. -/
theorem Wrote.offOld {w w' : World} {B b : Nat} {v v' : Value} {l' : List UInt8} (h : Wrote w B v v' l' w') (hne : v.ownBlock ≠ some b) (hb : b < w.heap.size) : v'.ownBlock ≠ some b := by
  rcases h.far with e | ⟨g, e, hg⟩
  · rwa [e]
  · rw [e]
    intro e2
    have := Option.some.inj e2
    omega
/-- Bytes, and a text behind them, appended in a region that draws; a block of another is as it was all the time. -/
theorem two_apps {W w2 w4 : World} {B B4 H : Nat} {v0 v2 x4 : Value} {L m : List UInt8} {s : ByteArray} (hW : Wrote W B v0 v2 L w2) (hm : m.length = 4) (hb4 : Below w2.drew.heap.size w2.drew w4) (ho4 : Own w4 B4 x4 m) (hl : L.length + s.size + 4 ≤ 100000000) (hB : B ≤ W.heap.size)
    (hne : v2.ownBlock ≠ some H) (hH : H < w2.heap.size) (k3 : w2.drew.cell? ⟨H, 2, none⟩ = some (.string s)) :
    ∃ A4 c4 v5 w5 v6 w6, x4 = .slice A4 4 c4 ∧ (Builtin.append_ #[26, 26] 26 #[v2, .slice A4 4 c4]).run Tryd.prog w4 = .ok v5 w5 ∧ (Builtin.append_ #[26, 9] 26 #[v5, .string s]).run Tryd.prog w5 = .ok v6 w6 ∧ Wrote W B v0 v6 (L ++ m ++ s.data.toList) w6 ∧
      w4.cell? ⟨H, 2, none⟩ = some (.string s) ∧ w5.cell? ⟨H, 2, none⟩ = some (.string s) ∧ w6.cell? ⟨H, 2, none⟩ = some (.string s) := by
  obtain ⟨A4, c4, rfl, -, -, hy4⟩ := ho4.bytes
  have hW4 := hW.drew.call hb4
  have hz4 : w2.heap.size ≤ w4.heap.size := hb4.size
  have hBw : B ≤ w4.heap.size := Nat.le_trans hB hW4.size
  obtain ⟨v5, w5, hr5, hV5⟩ := (Wrote.refl hW4.own).app m A4 c4 hy4 (by omega) hBw
  have hse : s.data.toList.length = s.size := by simp
  obtain ⟨v6, w6, hr6, hV6⟩ := (Wrote.refl hV5.own).str s (by rw [List.length_append]; omega) (Nat.le_trans hBw hV5.size)
  have k4 : w4.cell? ⟨H, 2, none⟩ = some (.string s) := (hb4.cell (p := ⟨H, 2, none⟩) hH).trans k3
  have k5 : w5.cell? ⟨H, 2, none⟩ = some (.string s) := (World.cell?_of_block (a := ⟨H, 2, none⟩) (hV5.block (show H < w4.heap.size by omega) hne)).trans k4
  have hz5 := hV5.size
  have k6 : w6.cell? ⟨H, 2, none⟩ = some (.string s) := (World.cell?_of_block (a := ⟨H, 2, none⟩) (hV6.block (show H < w5.heap.size by omega) (hV5.offOld hne (show H < w4.heap.size by omega)))).trans k5
  rw [hm] at hr5 ⊢
  exact ⟨A4, c4, v5, w5, v6, w6, rfl, hr5, hr6, (hW4.trans hV5).trans hV6, k4, k5, k6⟩
set_option maxRecDepth 100000 in
set_option maxHeartbeats 4000000 in
theorem rencode_any (xs : List V) (A : Option Addr) (c : Nat) (w : World) (hr : RowAt w w.heap.size A xs) (hf : ∀ v ∈ xs, v.fits) (hw : rowW xs ≤ 1000000) (hm : xs.length ≤ 1000000) :
    Calls Tryd.prog 12 #[.slice A xs.length c] w (Gave w (encL false xs) (chkR xs)) := by
  have HC := Lib.hid (rcheckRow_any xs A c w hr (by omega))
  have HR := Lib.hid hr
  have HL := Lib.hid (show encL false xs = if chkR xs = 0 then UInt8.ofNat xs.length :: wRow false xs else [] from rfl)
  have HK := Lib.hid (fun h => chk_okv (xs := xs) h hf)
  generalize encL false xs = E at *
  generalize hcr : chkR xs = r at *
  clear hr hf
  by_cases h0 : r = 0
  · subst h0
    obtain ⟨hok, hn⟩ := HK.out rfl
    have HO := Lib.hid hok
    clear hok
    have HX := HL.out
    rw [if_pos rfl] at HX
    have HX' := Lib.hid HX
    clear HX
    have hlu : (((UInt8.ofNat xs.length).toNat : Nat) : Int) = (xs.length : Int) := by simp; omega
    obtain ⟨n, hnn⟩ : ∃ n, n = xs.length := ⟨_, rfl⟩
    rw [← hnn] at HC HX' hlu hn ⊢
    have HN := Lib.hid hnn
    clear hnn
    go_enter Tryd.func12, Tryd.ntmps12
    go_wp2_with fail
    refine HC.out.mono ?_
    rintro e w1 ⟨rfl, hb1⟩
    have hz1 := hb1.size
    have ho1 := own_laid w1 (UInt8.ofNat n) hz1
    rw [hlu] at ho1
    have H1 := Lib.hid ho1
    have HB1 := Lib.hid (hb1.alloc hz1 (.cells #[.int .u8 n] 5))
    have hz2 : w1.heap.size + 1 = (w1.alloc (.cells #[.int .u8 n] 5)).heap.size := by simp
    clear ho1 hlu
    go_wp2_with fail
    generalize w1.alloc (.cells #[.int .u8 n] 5) = W2 at *
    generalize hv0 : Value.slice (some ⟨w1.heap.size, 0, none⟩) 1 1 = v0 at *
    go_loopw [5, 19] (fun b i wr => ∃ k : Nat, k ≤ n ∧ i = .int .i64 k ∧ Hid (Wrote W2 w.heap.size v0 b ([UInt8.ofNat n] ++ wRow false (xs.take k)) wr)) (fun _ i _ => n - (intOf i).toNat)
    case atStart => exact ⟨0, Nat.zero_le _, rfl, by show Wrote _ _ _ _ _ _; simpa [wRow] using Wrote.refl H1.out⟩
    case round =>
      obtain ⟨k, hk, rfl, HW⟩ := hrel
      by_cases hlt : k < n
      · have hkx : k < xs.length := by rw [← HN.out]; exact hlt
        have HX : Hid ([UInt8.ofNat n] ++ wRow false (xs.take (k + 1)) = ([UInt8.ofNat n] ++ wRow false (xs.take k)) ++ wVal false xs[k]) := by show _ = _; rw [wRow_snoc _ _ _ hkx, List.append_assoc]
        have hLL : ([UInt8.ofNat n] ++ wRow false (xs.take k)).length ≤ 2000000 := by
          have h1 := wRow_len false (xs.take k)
          have h2 := rowW_take xs k
          simp only [List.length_append, List.length_cons, List.length_nil]
          omega
        have hvs : xs[k].s.size ≤ 500000 := by have := rowW_mem (List.getElem_mem hkx); omega
        have hzr : W2.heap.size ≤ wr.heap.size := HW.out.size
        have hzw : w.heap.size ≤ W2.heap.size := by omega
        have HBl := Lib.hid (HB1.out.trans (HW.out.below H1.out hzw))
        obtain ⟨b', off, hA, hbl, hc⟩ := HR.out (by omega)
        subst hA
        obtain ⟨c1, c2, c3⟩ := hc k hkx
        have d1 := (HBl.out.cell (p := ⟨b', _, none⟩) hbl).trans c1
        have d2 := (HBl.out.cell (p := ⟨b', _, none⟩) hbl).trans c2
        have d3 := (HBl.out.cell (p := ⟨b', _, none⟩) hbl).trans c3
        clear c1 c2 c3 hc
        have hv := (HO.out xs[k] (List.getElem_mem hkx)).1
        generalize [UInt8.ofNat n] ++ wRow false (xs.take k) = L at *
        generalize xs[k] = v at *
        rcases may_cases hv with rfl | rfl | rfl | ⟨i, rfl⟩ | ⟨s, rfl⟩ | ⟨s, rfl⟩
        · obtain ⟨v2, w2, hr2, hW2⟩ := (Wrote.refl (own_alloc HW.out.own (b3 ⟨0, 0, ⟨#[]⟩⟩ 43))).one 0 (by omega) (by simp; omega)
          have HW2 := Lib.hid ((HW.out.alloc (b3 ⟨0, 0, ⟨#[]⟩⟩ 43)).trans hW2)
          obtain ⟨g1, g2, g3⟩ := b3_cells (hW2.at (heap_alloc_new wr (b3 ⟨0, 0, ⟨#[]⟩⟩ 43)) (own_new HW.out.own (Nat.le_refl _)))
          have hz2' := hW2.size
          simp at hz2'
          have H2 := Lib.hid hW2
          have HOF := Lib.hid (own_new HW.out.own (Nat.le_refl _))
          clear hW2 hv
          rw [alloc_size] at hr2
          simp only [b3, show ((0 : UInt8).toNat : Int) = 0 from rfl] at hr2 d1 d2 d3 g1 g2 g3
          go_wp2_with (at_builtin; first | (refine Lib.wpList_append_run_sl _ rfl _ _ 26 rfl _ _ rfl rfl hr2 ?_))
          go_roundw
          case rel => exact ⟨k + 1, by omega, by go_num, by show Wrote _ _ _ _ _ _; rw [HX.out]; exact HW2.out⟩
          case measure => simp [intOf]; omega
        · obtain ⟨v2, w2, hr2, hW2⟩ := (Wrote.refl (own_alloc HW.out.own (b3 ⟨1, 0, ⟨#[]⟩⟩ 43))).one 1 (by omega) (by simp; omega)
          have HW2 := Lib.hid ((HW.out.alloc (b3 ⟨1, 0, ⟨#[]⟩⟩ 43)).trans hW2)
          obtain ⟨g1, g2, g3⟩ := b3_cells (hW2.at (heap_alloc_new wr (b3 ⟨1, 0, ⟨#[]⟩⟩ 43)) (own_new HW.out.own (Nat.le_refl _)))
          have hz2' := hW2.size
          simp at hz2'
          have H2 := Lib.hid hW2
          have HOF := Lib.hid (own_new HW.out.own (Nat.le_refl _))
          clear hW2 hv
          rw [alloc_size] at hr2
          simp only [b3, show ((1 : UInt8).toNat : Int) = 1 from rfl] at hr2 d1 d2 d3 g1 g2 g3
          obtain ⟨v3, w3, hr3, hW3⟩ := HW2.out.one 0 (by simp; omega) (by omega)
          have HW3 := Lib.hid hW3
          simp only [show ((0 : UInt8).toNat : Int) = 0 from rfl] at hr3
          clear hW3
          go_wp2_with (at_builtin; first | (refine Lib.wpList_append_run_sl _ rfl _ _ 26 rfl _ _ rfl rfl hr2 ?_) | (refine Lib.wpList_append_run_sl _ rfl _ _ 26 rfl _ _ rfl rfl hr3 ?_))
          go_roundw
          case rel => exact ⟨k + 1, by omega, by go_num, by show Wrote _ _ _ _ _ _; rw [HX.out]; exact by have h := HW3.out; rw [List.append_assoc] at h; exact h⟩
          case measure => simp [intOf]; omega
        · obtain ⟨v2, w2, hr2, hW2⟩ := (Wrote.refl (own_alloc HW.out.own (b3 ⟨1, 1, ⟨#[]⟩⟩ 43))).one 1 (by omega) (by simp; omega)
          have HW2 := Lib.hid ((HW.out.alloc (b3 ⟨1, 1, ⟨#[]⟩⟩ 43)).trans hW2)
          obtain ⟨g1, g2, g3⟩ := b3_cells (hW2.at (heap_alloc_new wr (b3 ⟨1, 1, ⟨#[]⟩⟩ 43)) (own_new HW.out.own (Nat.le_refl _)))
          have hz2' := hW2.size
          simp at hz2'
          have H2 := Lib.hid hW2
          have HOF := Lib.hid (own_new HW.out.own (Nat.le_refl _))
          clear hW2 hv
          rw [alloc_size] at hr2
          simp only [b3, show ((1 : UInt8).toNat : Int) = 1 from rfl] at hr2 d1 d2 d3 g1 g2 g3
          obtain ⟨v3, w3, hr3, hW3⟩ := HW2.out.one 1 (by simp; omega) (by omega)
          have HW3 := Lib.hid hW3
          simp only [show ((1 : UInt8).toNat : Int) = 1 from rfl] at hr3
          clear hW3
          go_wp2_with (at_builtin; first | (refine Lib.wpList_append_run_sl _ rfl _ _ 26 rfl _ _ rfl rfl hr2 ?_) | (refine Lib.wpList_append_run_sl _ rfl _ _ 26 rfl _ _ rfl rfl hr3 ?_))
          go_roundw
          case rel => exact ⟨k + 1, by omega, by go_num, by show Wrote _ _ _ _ _ _; rw [HX.out]; exact by have h := HW3.out; rw [List.append_assoc] at h; exact h⟩
          case measure => simp [intOf]; omega
        · obtain ⟨v2, w2, hr2, hW2⟩ := (Wrote.refl (own_alloc HW.out.own (b3 ⟨2, i, ⟨#[]⟩⟩ 43))).one 2 (by omega) (by simp; omega)
          have HW2 := Lib.hid ((HW.out.alloc (b3 ⟨2, i, ⟨#[]⟩⟩ 43)).trans hW2)
          obtain ⟨g1, g2, g3⟩ := b3_cells (hW2.at (heap_alloc_new wr (b3 ⟨2, i, ⟨#[]⟩⟩ 43)) (own_new HW.out.own (Nat.le_refl _)))
          have hz2' := hW2.size
          simp at hz2'
          have H2 := Lib.hid hW2
          have HOF := Lib.hid (own_new HW.out.own (Nat.le_refl _))
          clear hW2 hv
          rw [alloc_size] at hr2
          simp only [b3, show ((2 : UInt8).toNat : Int) = 2 from rfl] at hr2 d1 d2 d3 g1 g2 g3
          have hx := toU_wrap i
          go_wp2_with (at_builtin; first | (refine Lib.wpList_append_run_sl _ rfl _ _ 26 rfl _ _ rfl rfl hr2 ?_))
          refine (wide8 (toU i) _ (toU_lt i)).mono ?_
          rintro e w4 ⟨x4, rfl, ho4, hb4⟩
          obtain ⟨A4, c4, rfl, -, -, hy4⟩ := ho4.bytes
          obtain ⟨v3, w3, hr3, hW3⟩ := (HW2.out.call hb4).app (be (toU i) 8) A4 c4 hy4 (by rw [be_length]; simp; omega) (by omega)
          have HW3 := Lib.hid hW3
          rw [be_length] at hr3
          rw [be_length]
          clear hW3 g1 g2 g3 hx hy4 ho4
          go_wp2_with (at_builtin; refine Lib.wpList_append_run_sl _ rfl _ _ 26 rfl _ _ rfl rfl hr3 ?_)
          go_roundw
          case rel => exact ⟨k + 1, by omega, by go_num, by show Wrote _ _ _ _ _ _; rw [HX.out]; exact by have h := HW3.out; rw [List.append_assoc] at h; exact h⟩
          case measure => simp [intOf]; omega
        · obtain ⟨v2, w2, hr2, hW2⟩ := (Wrote.refl (own_alloc HW.out.own (b3 ⟨3, 0, s⟩ 43))).one 3 (by omega) (by simp; omega)
          have HW2 := Lib.hid ((HW.out.alloc (b3 ⟨3, 0, s⟩ 43)).trans hW2)
          obtain ⟨g1, g2, g3⟩ := b3_cells (hW2.at (heap_alloc_new wr (b3 ⟨3, 0, s⟩ 43)) (own_new HW.out.own (Nat.le_refl _)))
          have hz2' := hW2.size
          simp at hz2'
          have H2 := Lib.hid hW2
          have HOF := Lib.hid (own_new HW.out.own (Nat.le_refl _))
          clear hW2 hv
          rw [alloc_size] at hr2
          simp only [b3, show ((3 : UInt8).toNat : Int) = 3 from rfl] at hr2 d1 d2 d3 g1 g2 g3
          have hse : s.data.toList.length = s.size := by simp
          simp only at hvs
          have hu : IntKind.u64.wrap (s.size : Int) = ((s.size : Nat) : Int) := by rw [IntKind.wrap_u64]; omega
          have HOG : Hid (v2.ownBlock ≠ some wr.heap.size) := H2.out.offOld HOF.out (by simp)
          go_wp2_with (at_builtin; first | (refine Lib.wpList_append_run_sl _ rfl _ _ 26 rfl _ _ rfl rfl hr2 ?_))
          have k3 : w2.drew.cell? ⟨wr.heap.size, 2, none⟩ = some (.string s) := g3
          clear g1 g2 g3 d1 d2 d3
          go_region_held3 (fun w' => w'.cell? ⟨wr.heap.size, 2, none⟩ = some (.string s)) (first | exact k3 | exact k4 | exact k5 | exact k6) (first
            | (go_at_call 30; go_must (refine (wide4 s.size _ (by omega)).mono ?_); rintro e w4 ⟨x4, rfl, ho4, hb4⟩; obtain ⟨A4, c4, v5, w5, v6, w6, rfl, hr5, hr6, hW6, k4, k5, k6⟩ := two_apps (s := s) HW2.out (be_length s.size 4) hb4 ho4 (by simp; omega) (by omega) HOG.out (by omega) k3; have HW6 := Lib.hid hW6; clear hW6 ho4)
            | (refine step_append_run _ rfl (.tmp 50) (.tmp 55) 26 26 rfl _ _ rfl rfl hr5 ?_)
            | (refine step_append_run _ rfl (.tmp 56) (.tmp 58) 26 9 rfl _ _ rfl rfl hr6 ?_))
          all_goals
            go_wp2_with fail
            go_roundw
            case rel => exact ⟨k + 1, by omega, by go_num, by show Wrote _ _ _ _ _ _; rw [HX.out]; have h := HW6.out; rw [List.append_assoc, List.append_assoc] at h; exact h⟩
            case measure => simp [intOf]; omega
        · obtain ⟨v2, w2, hr2, hW2⟩ := (Wrote.refl (own_alloc HW.out.own (b3 ⟨4, 0, s⟩ 43))).one 4 (by omega) (by simp; omega)
          have HW2 := Lib.hid ((HW.out.alloc (b3 ⟨4, 0, s⟩ 43)).trans hW2)
          obtain ⟨g1, g2, g3⟩ := b3_cells (hW2.at (heap_alloc_new wr (b3 ⟨4, 0, s⟩ 43)) (own_new HW.out.own (Nat.le_refl _)))
          have hz2' := hW2.size
          simp at hz2'
          have H2 := Lib.hid hW2
          have HOF := Lib.hid (own_new HW.out.own (Nat.le_refl _))
          clear hW2 hv
          rw [alloc_size] at hr2
          simp only [b3, show ((4 : UInt8).toNat : Int) = 4 from rfl] at hr2 d1 d2 d3 g1 g2 g3
          have hse : s.data.toList.length = s.size := by simp
          simp only at hvs
          have hu : IntKind.u64.wrap (s.size : Int) = ((s.size : Nat) : Int) := by rw [IntKind.wrap_u64]; omega
          have HOG : Hid (v2.ownBlock ≠ some wr.heap.size) := H2.out.offOld HOF.out (by simp)
          go_wp2_with (at_builtin; first | (refine Lib.wpList_append_run_sl _ rfl _ _ 26 rfl _ _ rfl rfl hr2 ?_))
          have k3 : w2.drew.cell? ⟨wr.heap.size, 2, none⟩ = some (.string s) := g3
          clear g1 g2 g3 d1 d2 d3
          go_region_held3 (fun w' => w'.cell? ⟨wr.heap.size, 2, none⟩ = some (.string s)) (first | exact k3 | exact k4 | exact k5 | exact k6) (first
            | (go_at_call 30; go_must (refine (wide4 s.size _ (by omega)).mono ?_); rintro e w4 ⟨x4, rfl, ho4, hb4⟩; obtain ⟨A4, c4, v5, w5, v6, w6, rfl, hr5, hr6, hW6, k4, k5, k6⟩ := two_apps (s := s) HW2.out (be_length s.size 4) hb4 ho4 (by simp; omega) (by omega) HOG.out (by omega) k3; have HW6 := Lib.hid hW6; clear hW6 ho4)
            | (refine step_append_run _ rfl (.tmp 50) (.tmp 55) 26 26 rfl _ _ rfl rfl hr5 ?_)
            | (refine step_append_run _ rfl (.tmp 56) (.tmp 58) 26 9 rfl _ _ rfl rfl hr6 ?_))
          all_goals
            go_wp2_with fail
            go_roundw
            case rel => exact ⟨k + 1, by omega, by go_num, by show Wrote _ _ _ _ _ _; rw [HX.out]; have h := HW6.out; rw [List.append_assoc, List.append_assoc] at h; exact h⟩
            case measure => simp [intOf]; omega
      · obtain rfl : n = k := by omega
        have HT : Hid (Wrote W2 w.heap.size v0 u5 ([UInt8.ofNat n] ++ wRow false xs) wr) := by have := HW.out; rw [List.take_of_length_le (by rw [← HN.out]; omega)] at this; exact this
        go_wp2_with fail
        go_ret2
        exact ⟨_, rfl, by rw [HX'.out]; exact HT.out.own, HB1.out.trans (HT.out.below H1.out (by omega))⟩
  · have h1 : (r != 0) = true := by simpa using h0
    have HX : Hid (E = []) := by have h := HL.out; rw [if_neg h0] at h; exact h
    obtain ⟨n, hnn⟩ : ∃ n, n = xs.length := ⟨_, rfl⟩
    rw [← hnn] at HC ⊢
    clear hnn h0 hcr
    go_enter Tryd.func12, Tryd.ntmps12
    go_wp2_with fail
    refine HC.out.mono ?_
    rintro e w1 ⟨rfl, hb1⟩
    go_wp2_with fail
    go_ret2
    exact ⟨_, rfl, by rw [HX.out]; exact Own.nil _ _, hb1⟩
end Go.Proofs.YtnpemegklndegaaDoor
