/- Contract of code's write: a row's values behind bytes that the caller owns, in either form. Conditions: values that may be, texts of no more than a million bytes in all, and that the library's one variable that is read is there. -/
import Derived.Test.YtnpemegklndegaaDoorCodWTxt
import Derived.Laws.EntriesVeiled
import Derived.Test.YtnpemegklndegaaDoorFew
namespace Go.Proofs.YtnpemegklndegaaDoor
open Go.RowKit
def b3 (v : V) (T : TypeId) : Obj := .cells #[.int .i64 v.k, .int .i64 v.i, .string v.s] T
def formO (T : Int) (fn gn : Nat) (t : TypeId) : Obj := .cells #[.int .u64 T, .func (.func fn) #[] #[], .func (.func gn) #[] #[]] t
theorem b3_cells {w : World} {b : Nat} {v : V} {T : TypeId} (h : w.heap[b]? = some (b3 v T)) : w.cell? ⟨b, 0, none⟩ = some (.int .i64 v.k) ∧ w.cell? ⟨b, 1, none⟩ = some (.int .i64 v.i) ∧ w.cell? ⟨b, 2, none⟩ = some (.string v.s) :=
  ⟨by rw [Lib.cell_of_heap h]; rfl, by rw [Lib.cell_of_heap h]; rfl, by rw [Lib.cell_of_heap h]; rfl⟩
theorem form_cells {w : World} {b fn gn : Nat} {T : Int} {t : TypeId} (h : w.heap[b]? = some (formO T fn gn t)) : w.cell? ⟨b, 0, none⟩ = some (.int .u64 T) ∧ w.cell? ⟨b, 1, none⟩ = some (.func (.func fn) #[] #[]) ∧ w.cell? ⟨b, 2, none⟩ = some (.func (.func gn) #[] #[]) :=
  ⟨by rw [Lib.cell_of_heap h]; rfl, by rw [Lib.cell_of_heap h]; rfl, by rw [Lib.cell_of_heap h]; rfl⟩
theorem Wrote.at {w W : World} {B b : Nat} {v v' : Value} {l' : List UInt8} {o : Obj} (h : Wrote w B v v' l' W) (hb : w.heap[b]? = some o) (hne : v.ownBlock ≠ some b) : W.heap[b]? = some o :=
  (h.block (Array.getElem?_eq_some_iff.1 hb).1 hne).trans hb
theorem own_new {w : World} {B b : Nat} {v : Value} {l : List UInt8} (h : Own w B v l) (hb : w.heap.size ≤ b) : v.ownBlock ≠ some b := fun e => by
  have := (h.lt _ e).2
  omega
theorem alloc_size (w : World) (o : Obj) : (w.alloc o).heap.size = w.heap.size + 1 := by simp
def rowW (xs : List V) : Nat := (xs.map fun v => 2 * v.s.size + 9).sum
theorem wRow_len (f : Bool) (xs : List V) : (wRow f xs).length ≤ rowW xs := by
  induction xs with
  | nil => simp [wRow, rowW]
  | cons v l ih =>
    have := wVal_len f v
    show (wVal f v ++ wRow f l).length ≤ _
    rw [List.length_append]
    simp only [rowW, List.map_cons, List.sum_cons] at ih ⊢
    omega
theorem rowW_take (xs : List V) (k : Nat) : rowW (xs.take k) ≤ rowW xs := by unfold rowW; rw [List.map_take]; exact sum_take_le _ _
theorem rowW_mem {xs : List V} {v : V} (h : v ∈ xs) : 2 * v.s.size + 9 ≤ rowW xs := by
  induction xs with
  | nil => simp at h
  | cons u l ih =>
    simp only [rowW, List.map_cons, List.sum_cons] at ih ⊢
    rcases List.mem_cons.1 h with rfl | h
    · omega
    · have := ih h; omega
/-- What the two ways to write a text are asked. -/
def WTxt (B fn : Nat) (f : Bool) : Prop := ∀ (v : Value) (l : List UInt8) (s : ByteArray) (w : World), Own w B v l → B ≤ w.heap.size → l.length ≤ 10000000 → s.size ≤ 1000000 → Env w → Calls Tryd.prog fn #[v, .string s] w fun e w' => ∃ v', e = .returned v' ∧ Wrote w B v v' (l ++ wTxt f s.data.toList) w'
theorem wTxt37 (B : Nat) : WTxt B 37 false := fun v l s w ho hB hl hs _ => writeCounted_any B v l s w ho hB hl hs
theorem wTxt41 (B : Nat) : WTxt B 41 true := fun v l s w ho hB hl hs hE => writeEnded_any B v l s w ho hB hl hs hE
theorem enter37 (a : Array Value) (w : World) : (callFunc 37 a).run Tryd.prog w = .ok (.enter 37 a) w := by kernel_rfl
theorem enter41 (a : Array Value) (w : World) : (callFunc 41 a).run Tryd.prog w = .ok (.enter 41 a) w := by kernel_rfl
set_option maxRecDepth 100000 in
set_option maxHeartbeats 4000000 in
theorem write_any (T : Int) (fn gn : Nat) (f : Bool) (hT : ∀ i, bits .xor .u64 (IntKind.u64.wrap i) T = ((trn f (toU i) : Nat) : Int)) (B : Nat) (hF : WTxt B fn f) (hfn : ∀ a w, (callFunc fn a).run Tryd.prog w = .ok (.enter fn a) w) (v0 : Value) (l : List UInt8) (xs : List V) (A : Option Addr) (c : Nat) (w : World)
    (ho : Own w B v0 l) (hB : B ≤ w.heap.size) (hB1 : 1 ≤ B) (hr : RowAt w B A xs) (hok : ∀ v ∈ xs, v.okv) (hw : rowW xs ≤ 1000000) (hl : l.length ≤ 1000000) (hn : xs.length ≤ 64) (hE : Env w) :
    Calls Tryd.prog 28 #[.agg #[.int .u64 T, .func (.func fn) #[] #[], .func (.func gn) #[] #[]], v0, .slice A xs.length c] w fun e w' => ∃ v', e = .returned v' ∧ Wrote w B v0 v' (l ++ wRow f xs) w' := by
  obtain ⟨n, hnn⟩ : ∃ n, n = xs.length := ⟨_, rfl⟩
  have HN := Lib.hid hnn
  rw [← hnn] at hn ⊢
  clear hnn
  have HR := Lib.hid hr
  have HO := Lib.hid hok
  have HT := Lib.hid hT
  have HF := Lib.hid hF
  have HE := Lib.hid hE
  have H0 := Lib.hid ho
  clear hr hok hT hF hE ho
  go_enter Tryd.func28, Tryd.ntmps28
  go_wp2_with fail
  have H1 := Lib.hid (own_alloc H0.out (formO T fn gn 52))
  have HB1 := Lib.hid (heap_alloc_new w (formO T fn gn 52))
  have HN1 := Lib.hid (own_new H0.out (Nat.le_refl _))
  have hz1 : (w.alloc (formO T fn gn 52)).heap.size = w.heap.size + 1 := by simp
  have HBW := Lib.hid (((Wrote.refl H0.out).alloc (formO T fn gn 52)))
  unfold formO at *
  generalize w.alloc (.cells #[.int .u64 T, .func (.func fn) #[] #[], .func (.func gn) #[] #[]] 52) = W1 at *
  go_loopw [1, 12] (fun b i wr => ∃ k : Nat, k ≤ n ∧ i = .int .i64 k ∧ Hid (Wrote W1 B v0 b (l ++ wRow f (xs.take k)) wr)) (fun _ i _ => n - (intOf i).toNat)
  case atStart => exact ⟨0, Nat.zero_le _, rfl, by show Wrote _ _ _ _ _ _; simpa [wRow] using Wrote.refl H1.out⟩
  case round =>
    obtain ⟨k, hk, rfl, HW⟩ := hrel
    by_cases hlt : k < n
    · have hkx : k < xs.length := by rw [← HN.out]; exact hlt
      have HX : Hid (l ++ wRow f (xs.take (k + 1)) = (l ++ wRow f (xs.take k)) ++ wVal f xs[k]) := by show _ = _; rw [wRow_snoc _ _ _ hkx, List.append_assoc]
      have hLL : (l ++ wRow f (xs.take k)).length ≤ 2000000 := by
        have h1 := wRow_len f (xs.take k)
        have h2 := rowW_take xs k
        rw [List.length_append]
        omega
      have hvs : xs[k].s.size ≤ 500000 := by have := rowW_mem (List.getElem_mem hkx); omega
      have hzr : W1.heap.size ≤ wr.heap.size := HW.out.size
      have HBl := Lib.hid ((HBW.out.trans HW.out).below H0.out hB)
      obtain ⟨b', off, hA, hbl, hc⟩ := HR.out (by omega)
      subst hA
      obtain ⟨c1, c2, c3⟩ := hc k hkx
      have d1 := (HBl.out.cell (p := ⟨b', _, none⟩) hbl).trans c1
      have d2 := (HBl.out.cell (p := ⟨b', _, none⟩) hbl).trans c2
      have d3 := (HBl.out.cell (p := ⟨b', _, none⟩) hbl).trans c3
      clear c1 c2 c3 hc
      have hv := (HO.out xs[k] (List.getElem_mem hkx)).1
      have HEr := Lib.hid (HE.out.below HBl.out hB1)
      generalize l ++ wRow f (xs.take k) = L at *
      generalize xs[k] = v at *
      rcases may_cases hv with rfl | rfl | rfl | ⟨i, rfl⟩ | ⟨s, rfl⟩ | ⟨s, rfl⟩
      · obtain ⟨v2, w2, hr2, hW2⟩ := (Wrote.refl (own_alloc HW.out.own (b3 ⟨0, 0, ⟨#[]⟩⟩ 43))).one 0 (by omega) (by simp; omega)
        have HW2 := Lib.hid ((HW.out.alloc (b3 ⟨0, 0, ⟨#[]⟩⟩ 43)).trans hW2)
        obtain ⟨g1, g2, g3⟩ := b3_cells (hW2.at (heap_alloc_new wr (b3 ⟨0, 0, ⟨#[]⟩⟩ 43)) (own_new HW.out.own (Nat.le_refl _)))
        obtain ⟨e1, e2, e3⟩ := form_cells (HW2.out.at HB1.out HN1.out)
        have hz2 := hW2.size
        simp at hz2
        have H2 := Lib.hid hW2
        clear hW2 hv
        rw [alloc_size] at hr2
        simp only [b3, show ((0 : UInt8).toNat : Int) = 0 from rfl] at hr2 d1 d2 d3 g1 g2 g3
        go_wp2_with (at_builtin; first | (refine Lib.wpList_append_run_sl _ rfl _ _ 26 rfl _ _ rfl rfl hr2 ?_))
        go_roundw
        case rel => exact ⟨k + 1, by omega, by go_num, by show Wrote _ _ _ _ _ _; rw [HX.out]; exact HW2.out⟩
        case measure => simp [intOf]; omega
      · obtain ⟨v2, w2, hr2, hW2⟩ := (Wrote.refl (own_alloc HW.out.own (b3 ⟨1, 0, ⟨#[]⟩⟩ 43))).one 1 (by omega) (by simp; omega)
        have HW2 := Lib.hid ((HW.out.alloc (b3 ⟨1, 0, ⟨#[]⟩⟩ 43)).trans hW2)
        obtain ⟨g1, g2, g3⟩ := b3_cells (hW2.at (heap_alloc_new wr (b3 ⟨1, 0, ⟨#[]⟩⟩ 43)) (own_new HW.out.own (Nat.le_refl _)))
        obtain ⟨e1, e2, e3⟩ := form_cells (HW2.out.at HB1.out HN1.out)
        have hz2 := hW2.size
        simp at hz2
        have H2 := Lib.hid hW2
        clear hW2 hv
        rw [alloc_size] at hr2
        simp only [b3, show ((1 : UInt8).toNat : Int) = 1 from rfl] at hr2 d1 d2 d3 g1 g2 g3
        obtain ⟨v3, w3, hr3, hW3⟩ := HW2.out.one 0 (by simp; omega) (by omega)
        have HW3 := Lib.hid hW3
        simp only [show ((0 : UInt8).toNat : Int) = 0 from rfl] at hr3
        clear hW3
        go_wp2_with (at_builtin; first | (refine Lib.wpList_append_run_sl _ rfl _ _ 26 rfl _ _ rfl rfl hr2 ?_) | (refine Lib.wpList_append_run_sl _ rfl _ _ 26 rfl _ _ rfl rfl hr3 ?_))
        go_roundw
        case rel => exact ⟨k + 1, by omega, by go_num, by show Wrote _ _ _ _ _ _; rw [HX.out]; exact by have h := HW3.out; rw [List.append_assoc] at h; exact h⟩
        case measure => simp [intOf]; omega
      · obtain ⟨v2, w2, hr2, hW2⟩ := (Wrote.refl (own_alloc HW.out.own (b3 ⟨1, 1, ⟨#[]⟩⟩ 43))).one 1 (by omega) (by simp; omega)
        have HW2 := Lib.hid ((HW.out.alloc (b3 ⟨1, 1, ⟨#[]⟩⟩ 43)).trans hW2)
        obtain ⟨g1, g2, g3⟩ := b3_cells (hW2.at (heap_alloc_new wr (b3 ⟨1, 1, ⟨#[]⟩⟩ 43)) (own_new HW.out.own (Nat.le_refl _)))
        obtain ⟨e1, e2, e3⟩ := form_cells (HW2.out.at HB1.out HN1.out)
        have hz2 := hW2.size
        simp at hz2
        have H2 := Lib.hid hW2
        clear hW2 hv
        rw [alloc_size] at hr2
        simp only [b3, show ((1 : UInt8).toNat : Int) = 1 from rfl] at hr2 d1 d2 d3 g1 g2 g3
        obtain ⟨v3, w3, hr3, hW3⟩ := HW2.out.one 1 (by simp; omega) (by omega)
        have HW3 := Lib.hid hW3
        simp only [show ((1 : UInt8).toNat : Int) = 1 from rfl] at hr3
        clear hW3
        go_wp2_with (at_builtin; first | (refine Lib.wpList_append_run_sl _ rfl _ _ 26 rfl _ _ rfl rfl hr2 ?_) | (refine Lib.wpList_append_run_sl _ rfl _ _ 26 rfl _ _ rfl rfl hr3 ?_))
        go_roundw
        case rel => exact ⟨k + 1, by omega, by go_num, by show Wrote _ _ _ _ _ _; rw [HX.out]; exact by have h := HW3.out; rw [List.append_assoc] at h; exact h⟩
        case measure => simp [intOf]; omega
      · obtain ⟨v2, w2, hr2, hW2⟩ := (Wrote.refl (own_alloc HW.out.own (b3 ⟨2, i, ⟨#[]⟩⟩ 43))).one 2 (by omega) (by simp; omega)
        have HW2 := Lib.hid ((HW.out.alloc (b3 ⟨2, i, ⟨#[]⟩⟩ 43)).trans hW2)
        obtain ⟨g1, g2, g3⟩ := b3_cells (hW2.at (heap_alloc_new wr (b3 ⟨2, i, ⟨#[]⟩⟩ 43)) (own_new HW.out.own (Nat.le_refl _)))
        obtain ⟨e1, e2, e3⟩ := form_cells (HW2.out.at HB1.out HN1.out)
        have hz2 := hW2.size
        simp at hz2
        have H2 := Lib.hid hW2
        clear hW2 hv
        rw [alloc_size] at hr2
        simp only [b3, show ((2 : UInt8).toNat : Int) = 2 from rfl] at hr2 d1 d2 d3 g1 g2 g3
        have hx := HT.out i
        go_wp2_with (at_builtin; first | (refine Lib.wpList_append_run_sl _ rfl _ _ 26 rfl _ _ rfl rfl hr2 ?_))
        have hsp := fun w => split_any (trn f (toU i)) w (trn_lt f _ (toU_lt i))
        unfold arrV at hsp
        refine (hsp _).mono ?_
        rintro e w4 ⟨rfl, hb4⟩
        obtain ⟨v3, w3, hr3, hW3⟩ := ((HW2.out.call hb4).alloc (arrO (trn f (toU i)) 65)).app (be (trn f (toU i)) 8) (some ⟨w4.heap.size, 0, none⟩) 8 (arr_bytes w4 (trn f (toU i)) 65) (by rw [be_length]; simp; omega) (by omega)
        have HW3 := Lib.hid hW3
        rw [be_length] at hr3
        unfold arrO at hr3
        have hz4 := hb4.size
        obtain ⟨q1, q2, q3⟩ := b3_cells ((hb4.block _ (by omega)).trans (H2.out.at (heap_alloc_new wr (b3 ⟨2, i, ⟨#[]⟩⟩ 43)) (own_new HW.out.own (Nat.le_refl _))))
        clear hW3 hsp g1 g2 g3 hx e1 e2 e3
        go_wp2_with (at_builtin; refine Lib.wpList_append_run_sl _ rfl _ _ 26 rfl _ _ rfl rfl hr3 ?_)
        go_roundw
        case rel => exact ⟨k + 1, by omega, by go_num, by show Wrote _ _ _ _ _ _; rw [HX.out]; exact by have h := HW3.out; rw [List.append_assoc] at h; exact h⟩
        case measure => simp [intOf]; omega
      · obtain ⟨v2, w2, hr2, hW2⟩ := (Wrote.refl (own_alloc HW.out.own (b3 ⟨3, 0, s⟩ 43))).one 3 (by omega) (by simp; omega)
        have HW2 := Lib.hid ((HW.out.alloc (b3 ⟨3, 0, s⟩ 43)).trans hW2)
        obtain ⟨g1, g2, g3⟩ := b3_cells (hW2.at (heap_alloc_new wr (b3 ⟨3, 0, s⟩ 43)) (own_new HW.out.own (Nat.le_refl _)))
        obtain ⟨e1, e2, e3⟩ := form_cells (HW2.out.at HB1.out HN1.out)
        have hz2 := hW2.size
        simp at hz2
        have H2 := Lib.hid hW2
        clear hW2 hv
        rw [alloc_size] at hr2
        simp only [b3, show ((3 : UInt8).toNat : Int) = 3 from rfl] at hr2 d1 d2 d3 g1 g2 g3
        go_wp2_with (at_builtin; first | (refine Lib.wpList_append_run_sl _ rfl _ _ 26 rfl _ _ rfl rfl hr2 ?_))
        refine (HF.out v2 (L ++ [3]) s w2 HW2.out.own (by omega) (by simp; omega) (by omega) (HE.out.below ((HBW.out.trans HW2.out).below H0.out hB) hB1)).mono ?_
        rintro e w3 ⟨v3, rfl, hW3⟩
        have HW3 := Lib.hid (HW2.out.trans hW3)
        clear hW3
        go_wp2_with fail
        go_roundw
        case rel => exact ⟨k + 1, by omega, by go_num, by show Wrote _ _ _ _ _ _; rw [HX.out]; exact by have h := HW3.out; rw [List.append_assoc] at h; exact h⟩
        case measure => simp [intOf]; omega
      · obtain ⟨v2, w2, hr2, hW2⟩ := (Wrote.refl (own_alloc HW.out.own (b3 ⟨4, 0, s⟩ 43))).one 4 (by omega) (by simp; omega)
        have HW2 := Lib.hid ((HW.out.alloc (b3 ⟨4, 0, s⟩ 43)).trans hW2)
        obtain ⟨g1, g2, g3⟩ := b3_cells (hW2.at (heap_alloc_new wr (b3 ⟨4, 0, s⟩ 43)) (own_new HW.out.own (Nat.le_refl _)))
        obtain ⟨e1, e2, e3⟩ := form_cells (HW2.out.at HB1.out HN1.out)
        have hz2 := hW2.size
        simp at hz2
        have H2 := Lib.hid hW2
        clear hW2 hv
        rw [alloc_size] at hr2
        simp only [b3, show ((4 : UInt8).toNat : Int) = 4 from rfl] at hr2 d1 d2 d3 g1 g2 g3
        go_wp2_with (at_builtin; first | (refine Lib.wpList_append_run_sl _ rfl _ _ 26 rfl _ _ rfl rfl hr2 ?_))
        refine (HF.out v2 (L ++ [4]) s w2 HW2.out.own (by omega) (by simp; omega) (by omega) (HE.out.below ((HBW.out.trans HW2.out).below H0.out hB) hB1)).mono ?_
        rintro e w3 ⟨v3, rfl, hW3⟩
        have HW3 := Lib.hid (HW2.out.trans hW3)
        clear hW3
        go_wp2_with fail
        go_roundw
        case rel => exact ⟨k + 1, by omega, by go_num, by show Wrote _ _ _ _ _ _; rw [HX.out]; exact by have h := HW3.out; rw [List.append_assoc] at h; exact h⟩
        case measure => simp [intOf]; omega
    · obtain rfl : k = n := by omega
      have HT : Hid (Wrote W1 B v0 u1 (l ++ wRow f xs) wr) := by have := HW.out; rw [List.take_of_length_le (by rw [← HN.out]; omega)] at this; exact this
      go_wp2_with fail
      go_ret
      exact ⟨_, rfl, HBW.out.trans HT.out⟩
end Go.Proofs.YtnpemegklndegaaDoor
