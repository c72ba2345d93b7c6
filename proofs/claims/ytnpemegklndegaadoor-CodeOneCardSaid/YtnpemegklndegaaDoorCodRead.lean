/- Contracts of code's readCounted and readEnded: a text out of bytes, and what is left behind it; or that there is none. Condition: no more than a million bytes. -/
import Derived.Test.YtnpemegklndegaaDoorCodPlain3
import Derived.Test.YtnpemegklndegaaDoorCodLive
import Derived.Laws.CopyRow
import Derived.Laws.CopyOwn
import Derived.BigQuiet
import Derived.Deep.Cut
import Derived.Deep.Quiet
import Derived.Deep.QuietTactic
namespace Go.Proofs.YtnpemegklndegaaDoor
open Go.RowKit
/-- One walk in the order of the text serves every order, of a region whose operations each yield one value in every world of a class, and leave the class. -/
theorem wp_region_class {P : Program} {id : Nat} {Q : Exit → Act → World → Prop} {a : Act} {w : World} {l : List Oper} (C : World → Prop) (hm : P.follows .mixedOrders = true) (hB : Region.lexB .any l.toArray = true) (hC : C w.drew) (h : wpQuiet P l.toArray C (fun a' => ∀ w', C w' → Q .normal a' w') l a) : (Code.region id l.toArray true).wp P Q a w :=
  wp_region_quiet (C := C) hm hB hC (by simpa using h)
/-- A world that came of another one. -/
def LatC (w0 : World) : Type := { W : World // Below w0.heap.size w0 W }
theorem slice_from (b off n c k : Nat) (kd : IntKind) (hk : k ≤ n) (hn : n ≤ c) : ∃ o', (∀ w, (Instr.slice 26 (.slice (some ⟨b, off, none⟩) n c) (some (.int kd k)) none none).run Tryd.prog w = .ok (.slice (some ⟨b, o', none⟩) (n - k) (c - k)) w) ∧ ∀ w B l, l.length = n → BytesAt w B (some ⟨b, off, none⟩) l → BytesAt w B (some ⟨b, o', none⟩) (l.drop k) := by
  by_cases h : c = k
  · obtain rfl : n = k := by omega
    subst h
    refine ⟨off, fun w => ?_, fun w B l hl _ => ?_⟩
    · go_light
      simp [go_sem]
    · rw [List.drop_of_length_le (by omega)]
      exact BytesAt.nil _ _ _
  · refine ⟨off + k, fun w => ?_, fun w B l _ hy => hy.drop k⟩
    have h1 : (k : Int) ≤ n := by omega
    go_light
    simp [go_sem, h]
    intro hlt
    omega
theorem slice_to (b off n c k : Nat) (kd : IntKind) (hk : k ≤ c) : ∀ w, (Instr.slice 26 (.slice (some ⟨b, off, none⟩) n c) none (some (.int kd k)) none).run Tryd.prog w = .ok (.slice (some ⟨b, off, none⟩) k c) w := by
  intro w
  go_light
  simp [go_sem]
  intro hlt
  omega
def LiesS (w : World) (b : Nat) (v : Value) (l : List UInt8) : Prop := ∃ off c, v = .slice (some ⟨b, off, none⟩) l.length c ∧ l.length ≤ c ∧ BytesAt w w.heap.size (some ⟨b, off, none⟩) l
theorem LiesS.later {w w' : World} {b : Nat} {v : Value} {l : List UInt8} (h : LiesS w b v l) (hb : Below w.heap.size w w') : LiesS w' b v l := by
  obtain ⟨off, c, hv, hc, hy⟩ := h
  exact ⟨off, c, hv, hc, hy.later hb⟩
def GaveT (w : World) (b : Nat) (o : Option (List UInt8 × Nat)) (l : List UInt8) (e : Ending) (w' : World) : Prop :=
  Below w.heap.size w w' ∧ match o with
  | none => e = .returned (.tuple #[.string ⟨#[]⟩, .slice none 0 0, .bool false])
  | some (p, n) => ∃ v, e = .returned (.tuple #[.string ⟨p.toArray⟩, v, .bool true]) ∧ LiesS w' b v (l.drop n)
theorem wpList_copy_at (w : World) {ops : Array Oper} {rest : List Oper} {o : Oper} {a : Act} {Q : Exit → Act → World → Prop} (hgd : o.guard = none) (d s : Operand) (t t' : TypeId)
    (ho : o.op = .call { callee := .builtin .copy, args := #[d, s], argTypes := #[t, t'] }) (v u : Value) (hd : a.eval d = v) (hs : a.eval s = u) {v' : Value} {w' : World}
    (hr : (Builtin.copy_ #[t, t'] o.type #[v, u]).run Tryd.prog w = .ok v' w') (h : wpList Tryd.prog ops Q rest (a.put o.dst v') w') : wpList Tryd.prog ops Q (o :: rest) a w :=
  wpList_plain hgd fun _ hK => by
    unfold Oper.wp execOp
    simp only [ho, resolve, invoke, builtin, Sem.run_bind, Sem.run_pure, Result.andThen_ok, List.map_toArray, List.map_cons, List.map_nil, hd, hs, hr]
    exact hK _ _ h
theorem take4 {l : List UInt8} (h : 4 ≤ l.length) : ∃ a b c d, l.take 4 = [a, b, c, d] := by
  match l, h with
  | a :: b :: c :: d :: t, _ => exact ⟨a, b, c, d, rfl⟩
theorem copy4 {w : World} {b off c : Nat} {l : List UInt8} {x0 x1 x2 x3 : UInt8} (hy : BytesAt w w.heap.size (some ⟨b, off, none⟩) l) (h4 : 4 ≤ l.length) (hx : l.take 4 = [x0, x1, x2, x3]) :
    ∃ W2, (∀ ty, (Builtin.copy_ #[26, 26] ty #[.slice (some ⟨w.heap.size, 4, none⟩) 4 4, .slice (some ⟨b, off, none⟩) l.length c]).run Tryd.prog (w.alloc (z8 65)) = .ok (goInt 4) W2) ∧ Below w.heap.size w W2 ∧ w.heap.size < W2.heap.size ∧
      W2.heap[w.heap.size]? = some (.cells #[.int .u8 0, .int .u8 0, .int .u8 0, .int .u8 0, .int .u8 x0.toNat, .int .u8 x1.toNat, .int .u8 x2.toNat, .int .u8 x3.toNat] 65 (0, 0)) := by
  have hn : (w.alloc (z8 65)).heap[w.heap.size]? = some (z8 65) := heap_alloc_new w _
  have b1 := (Below.refl _ w).alloc (Nat.le_refl _) (z8 65)
  have hy1 := (hy.take 4).later b1
  rw [hx] at hy1
  have hs : (Tryd.prog.info? 5).map (·.size) = some 1 := by kernel_rfl
  have hr := fun ty => run_copy_row (P := Tryd.prog) (w.alloc (z8 65)) 26 26 ty 5 w.heap.size 4 4 4 ⟨b, off, none⟩ l.length c _ 65 (u8s [x0, x1, x2, x3]) Tryd.underlying26 hs hn (by show 4 = Nat.min l.length 4; exact (Nat.min_eq_right h4).symm) hy1.cells (by simp [u8s]) (u8s_one _)
  refine ⟨_, hr, below_setRow b1 (Nat.le_refl _) _, ?_, ?_⟩
  · have h := setRow_heap (w.alloc (z8 65)) w.heap.size _ (([.int .u8 0, .int .u8 0, .int .u8 0, .int .u8 0, .int .u8 x0.toNat, .int .u8 x1.toNat, .int .u8 x2.toNat, .int .u8 x3.toNat] : List Value).toArray) _ _ hn
    exact (Array.getElem?_eq_some_iff.1 h).1
  · exact setRow_heap (w.alloc (z8 65)) w.heap.size _ _ _ _ hn
theorem unbe4 (x0 x1 x2 x3 : UInt8) : unbe [0, 0, 0, 0, x0, x1, x2, x3] = unbe [x0, x1, x2, x3] := by simp [unbe]
set_option maxRecDepth 100000 in
set_option maxHeartbeats 1000000 in
theorem readCounted_any (l : List UInt8) (b off c : Nat) (w : World) (hy : BytesAt w w.heap.size (some ⟨b, off, none⟩) l) (hc : l.length ≤ c) (hm : l.length ≤ 1000000) :
    Calls Tryd.prog 38 #[.slice (some ⟨b, off, none⟩) l.length c] w (GaveT w b (rTxt false l) l) := by
  by_cases h4 : l.length < 4
  · have hr : rTxt false l = none := by unfold rTxt; rw [if_neg (by simp), if_neg (by omega)]
    rw [hr]
    generalize l.length = n at *
    go_enter Tryd.func38, Tryd.ntmps38
    go_wp2_with fail
    exact bodyPost_ret (v := .tuple #[.string ⟨#[]⟩, .slice none 0 0, .bool false]) (by simp [results, Tryd.results38, go_sem]) rfl ⟨Below.refl _ _, rfl⟩
  · obtain ⟨x0, x1, x2, x3, hx⟩ := take4 (l := l) (by omega)
    have hr : rTxt false l = if unbe [x0, x1, x2, x3] ≤ 2147483647 ∧ unbe [x0, x1, x2, x3] ≤ l.length - 4 then some ((l.drop 4).take (unbe [x0, x1, x2, x3]), 4 + unbe [x0, x1, x2, x3]) else none := by
      unfold rTxt
      rw [if_neg (by simp), hx]
      by_cases hu : unbe [x0, x1, x2, x3] ≤ 2147483647 ∧ unbe [x0, x1, x2, x3] ≤ l.length - 4
      · rw [if_pos hu, if_pos ⟨by omega, hu⟩]
      · rw [if_neg hu, if_neg (fun h => hu h.2)]
    obtain ⟨W2, hcopy, hb2, hgs, hg⟩ := copy4 (c := c) hy (by omega) hx
    replace hcopy := hcopy 3
    obtain ⟨o4, hs4, hy4⟩ := slice_from b off l.length c 4 .i64 (by omega) hc
    replace hs4 : ∀ w, (Instr.slice 26 (.slice (some ⟨b, off, none⟩) l.length c) (some (.int .i64 4)) none none).run Tryd.prog w = .ok (.slice (some ⟨b, o4, none⟩) (l.length - 4) (c - 4)) w := hs4
    have hnum : ∀ w, Calls Tryd.prog 43 #[.agg #[.int .u8 0, .int .u8 0, .int .u8 0, .int .u8 0, .int .u8 x0.toNat, .int .u8 x1.toNat, .int .u8 x2.toNat, .int .u8 x3.toNat]] w fun e' w' => e' = .returned (.int .u64 (unbe [x0, x1, x2, x3])) ∧ Below w.heap.size w w' := by
      intro w
      rw [← unbe4]
      exact number_any 0 0 0 0 x0 x1 x2 x3 w
    have HN := Lib.hid hnum
    have HY : Hid (∀ w', Below w.heap.size w w' → BytesAt w' w'.heap.size (some ⟨b, o4, none⟩) (l.drop 4)) := fun w' h => hy4 w' _ l rfl (hy.later h)
    have HB := Lib.hid hb2
    have hul := unbe_lt [x0, x1, x2, x3]
    simp only [List.length_cons, List.length_nil] at hul
    have hcells : ∀ x : LatC W2, ∀ j, j < 8 → x.1.cell? ⟨w.heap.size, j, none⟩ = (#[.int .u8 0, .int .u8 0, .int .u8 0, .int .u8 0, .int .u8 x0.toNat, .int .u8 x1.toNat, .int .u8 x2.toNat, .int .u8 x3.toNat] : Array Value)[j]? := fun x j _ => by
      rw [x.2.cell (p := ⟨w.heap.size, j, none⟩) hgs, Lib.cell_of_heap hg]
    have HC := Lib.hid hcells
    rw [hr]
    obtain ⟨q, hq⟩ : ∃ q, q = l.length - 4 := ⟨_, rfl⟩
    obtain ⟨d, hd⟩ : ∃ d, d = c - 4 := ⟨_, rfl⟩
    have hqd : q ≤ d := by omega
    have HL : Hid ((l.drop 4).length = q) := by show _ = _; rw [List.length_drop, hq]
    rw [← hq, ← hd] at hs4
    rw [← hq]
    have hq1 : q ≤ 1000000 := by omega
    have hu : IntKind.u64.wrap (q : Int) = (q : Int) := by rw [IntKind.wrap_u64]; omega
    unfold z8 at hcopy
    have hsz := hb2.size
    clear hy hy4 hx hnum hb2 hr hg hcells hq hd
    generalize unbe [x0, x1, x2, x3] = m at *
    by_cases hcond : m ≤ 2147483647 ∧ m ≤ q
    · rw [if_pos hcond]
      obtain ⟨q1, q2⟩ := hcond
      have hs5 := slice_to b o4 q d m .u64 (by omega)
      obtain ⟨o6, hs6, hy6⟩ := slice_from b o4 q d m .u64 q2 hqd
      have HY6 := Lib.hid hy6
      have HS5 := Lib.hid hs5
      have HS6 := Lib.hid hs6
      clear hy6 hs5 hs6
      generalize hnn : l.length = n at *
      have HNN := Lib.hid hnn
      clear hnn
      go_enter Tryd.func38, Tryd.ntmps38
      go_wp2_with (at_builtin; refine wpList_copy_at _ rfl _ _ 26 26 rfl _ _ rfl rfl hcopy ?_)
      have HNE : Nonempty (LatC W2) := ⟨⟨_, Below.refl _ W2⟩⟩
      have f0 := fun x : LatC W2 => HC.out x 0 (by omega)
      have f1 := fun x : LatC W2 => HC.out x 1 (by omega)
      have f2 := fun x : LatC W2 => HC.out x 2 (by omega)
      have f3 := fun x : LatC W2 => HC.out x 3 (by omega)
      have f4 := fun x : LatC W2 => HC.out x 4 (by omega)
      have f5 := fun x : LatC W2 => HC.out x 5 (by omega)
      have f6 := fun x : LatC W2 => HC.out x 6 (by omega)
      have f7 := fun x : LatC W2 => HC.out x 7 (by omega)
      simp at f0 f1 f2 f3 f4 f5 f6 f7
      refine wp_region_class (fun w' => ∃ x : LatC W2, w' = x.1) (by kernel_rfl) (by kernel_rfl) ⟨⟨_, (Below.refl _ W2).drew⟩, rfl⟩ ?_
      repeat (go_big_quiet_step ((rename_i x; (go_at_call 43; refine (HN.out _).mono ?_; rintro e w2 ⟨rfl, hb⟩; exact ⟨rfl, ⟨_, x.2.trans (hb.mono x.2.size)⟩, rfl⟩))))
      refine wpQuiet_nil ?_
      rintro W3 ⟨⟨_, h3⟩, rfl⟩
      have B3 := Lib.hid (HB.out.trans (h3.mono hsz))
      clear f0 f1 f2 f3 f4 f5 f6 f7 h3 HNE
      have hs5 := HS5.out
      have hs6 := HS6.out
      have q3 : ¬ ((m : Int) > 2147483647) := by omega
      have q4 : ¬ ((m : Int) > (q : Int)) := by omega
      have hb3 := B3.out
      have HK : Hid (∀ x : LatC W3, (convert 26 9 (.slice (some ⟨b, o4, none⟩) m d)).run Tryd.prog x.1 = .ok (.string ⟨(List.take m (List.drop 4 l)).toArray⟩) x.1) := fun x => by
        have hk := conv_at (c := d) ((HY.out x.1 (hb3.trans (x.2.mono hb3.size))).take m)
        rw [List.length_take, Nat.min_eq_left (by rw [HL.out]; exact q2)] at hk
        exact hk
      clear hb3
      go_wp2_with fail
      have HNE : Nonempty (LatC W3) := ⟨⟨_, Below.refl _ W3⟩⟩
      have fk := HK.out
      refine wp_region_class (fun w' => ∃ x : LatC W3, w' = x.1) (by kernel_rfl) (by kernel_rfl) ⟨⟨_, (Below.refl _ W3).drew⟩, rfl⟩ ?_
      repeat (go_big_quiet_step (fail))
      refine wpQuiet_nil ?_
      rintro W4 ⟨⟨_, h4⟩, rfl⟩
      have B4 := Lib.hid (B3.out.trans (h4.mono B3.out.size))
      clear fk h4 HNE
      have Y6 := Lib.hid (HY6.out _ _ _ HL.out (HY.out W4 B4.out))
      go_wp2_with fail
      have e6 : q - m = (l.drop (4 + m)).length := by rw [List.length_drop]; have h1 := HL.out; rw [List.length_drop] at h1; omega
      rw [List.drop_drop] at Y6
      refine bodyPost_ret (v := .tuple #[.string ⟨(List.take m (List.drop 4 l)).toArray⟩, .slice (some ⟨b, o6, none⟩) (q - m) (d - m), .bool true]) (by simp [results, Tryd.results38, go_sem]) rfl ⟨B4.out, _, rfl, o6, d - m, by rw [e6], by rw [← e6]; omega, Y6.out⟩
    · rw [if_neg hcond]
      generalize l.length = n at *
      go_enter Tryd.func38, Tryd.ntmps38
      go_wp2_with (at_builtin; refine wpList_copy_at _ rfl _ _ 26 26 rfl _ _ rfl rfl hcopy ?_)
      have HNE : Nonempty (LatC W2) := ⟨⟨_, Below.refl _ W2⟩⟩
      have f0 := fun x : LatC W2 => HC.out x 0 (by omega)
      have f1 := fun x : LatC W2 => HC.out x 1 (by omega)
      have f2 := fun x : LatC W2 => HC.out x 2 (by omega)
      have f3 := fun x : LatC W2 => HC.out x 3 (by omega)
      have f4 := fun x : LatC W2 => HC.out x 4 (by omega)
      have f5 := fun x : LatC W2 => HC.out x 5 (by omega)
      have f6 := fun x : LatC W2 => HC.out x 6 (by omega)
      have f7 := fun x : LatC W2 => HC.out x 7 (by omega)
      simp at f0 f1 f2 f3 f4 f5 f6 f7
      refine wp_region_class (fun w' => ∃ x : LatC W2, w' = x.1) (by kernel_rfl) (by kernel_rfl) ⟨⟨_, (Below.refl _ W2).drew⟩, rfl⟩ ?_
      repeat (go_big_quiet_step ((rename_i x; (go_at_call 43; refine (HN.out _).mono ?_; rintro e w2 ⟨rfl, hb⟩; exact ⟨rfl, ⟨_, x.2.trans (hb.mono x.2.size)⟩, rfl⟩))))
      refine wpQuiet_nil ?_
      rintro W3 ⟨⟨_, h3⟩, rfl⟩
      have B3 := Lib.hid (HB.out.trans (h3.mono hsz))
      clear f0 f1 f2 f3 f4 f5 f6 f7 h3 HNE
      by_cases q3 : m ≤ 2147483647
      · have q4 : ¬ m ≤ q := fun h => hcond ⟨q3, h⟩
        have q5 : ¬ ((m : Int) > 2147483647) := by omega
        have q6 : (m : Int) > (q : Int) := by omega
        clear hcond q3 q4
        go_wp2_with fail
        exact bodyPost_ret (v := .tuple #[.string ⟨#[]⟩, .slice none 0 0, .bool false]) (by simp [results, Tryd.results38, go_sem]) rfl ⟨B3.out, rfl⟩
      · have q5 : (m : Int) > 2147483647 := by omega
        clear hcond q3
        go_wp2_with fail
        exact bodyPost_ret (v := .tuple #[.string ⟨#[]⟩, .slice none 0 0, .bool false]) (by simp [results, Tryd.results38, go_sem]) rfl ⟨B3.out, rfl⟩
end Go.Proofs.YtnpemegklndegaaDoor
