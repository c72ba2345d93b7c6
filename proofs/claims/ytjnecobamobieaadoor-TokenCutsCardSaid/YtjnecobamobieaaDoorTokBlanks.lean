/- The law TokenBlanks, walked: it answers true whatever the statement and the number are. Condition: the listed variables hold what they hold. -/
import Derived.Test.YtjnecobamobieaaDoorTokLive
import Derived.BigRegion
namespace Go.Proofs.YtjnecobamobieaaDoor
open Go.RowKit
set_option maxRecDepth 100000 in
set_option maxHeartbeats 1000000 in
/-- Of a text that is too long: no tokens, and the error of that. -/
theorem cut_long (s : ByteArray) (w : World) (hs : 4096 < s.size) : Calls Tryd.prog 10 #[.string s] w fun e w' => e = .returned (.tuple #[.slice none 0 0, .int .i64 0, .int .i64 2]) ∧ w' = w := by
  have hs2 : (4096 : Int) < (s.size : Int) := by omega
  go_enter Tryd.func10, Tryd.ntmps10
  go_wp2_with fail
  go_step3
  go_wp2_with fail
  rw [Exit.noGoto_ret]
  go_ret3
  exact ⟨rfl, rfl⟩
def ahead : Nat → List UInt8
  | 0 => [32]
  | 1 => [10, 9, 13]
  | 2 => [45, 45, 32, 39, 32, 120, 10]
  | _ => [45, 45, 10, 45, 45, 10]
theorem ahead_blank (k : Nat) : Blank (ahead k) := by
  match k with
  | 0 => exact blank_space
  | 1 => exact blank_lines
  | 2 => exact blank_rem
  | k + 3 => exact blank_rems
theorem ahead_cut (k : Nat) (l : List UInt8) : cutP 0 (ahead k ++ l) = upE (ahead k).length (cutP 0 l) := by
  rw [cut_blank (ahead_blank k) 0 l]
  exact cutP_up l 0 (ahead k).length
theorem ahead_len (k : Nat) : 1 ≤ (ahead k).length ∧ (ahead k).length ≤ 7 := by
  match k with
  | 0 => decide
  | 1 => decide
  | 2 => decide
  | k + 3 => exact ⟨by show 1 ≤ 6; omega, by show 6 ≤ 7; omega⟩
def aheadV : Array Value := #[.string ⟨#[32]⟩, .string ⟨#[10, 9, 13]⟩, .string ⟨#[45, 45, 32, 39, 32, 120, 10]⟩, .string ⟨#[45, 45, 10, 45, 45, 10]⟩]
theorem aheadV0 (w : World) : (Instr.index 32 (.agg aheadV) (.int .i64 0)).run Tryd.prog w = .ok (.string ⟨#[32]⟩) w := by kernel_rfl
theorem aheadV1 (w : World) : (Instr.index 32 (.agg aheadV) (.int .i64 1)).run Tryd.prog w = .ok (.string ⟨#[10, 9, 13]⟩) w := by kernel_rfl
theorem aheadV2 (w : World) : (Instr.index 32 (.agg aheadV) (.int .i64 2)).run Tryd.prog w = .ok (.string ⟨#[45, 45, 32, 39, 32, 120, 10]⟩) w := by kernel_rfl
theorem aheadV3 (w : World) : (Instr.index 32 (.agg aheadV) (.int .i64 3)).run Tryd.prog w = .ok (.string ⟨#[45, 45, 10, 45, 45, 10]⟩) w := by kernel_rfl
theorem ahead_index (w : World) (k : Nat) (hk : k < 4) : (Instr.index 32 (.agg #[.string ⟨#[32]⟩, .string ⟨#[10, 9, 13]⟩, .string ⟨#[45, 45, 32, 39, 32, 120, 10]⟩, .string ⟨#[45, 45, 10, 45, 45, 10]⟩]) (.int .i64 k)).run Tryd.prog w = .ok (.string (str (ahead k))) w := by
  match k, hk with
  | 0, _ => exact aheadV0 w
  | 1, _ => exact aheadV1 w
  | 2, _ => exact aheadV2 w
  | 3, _ => exact aheadV3 w
  | k + 4, h => exact absurd h (by omega)
theorem tmod4 (n : Int) : ∃ (t : Int) (j : Nat), n.tmod 4 = t ∧ -3 ≤ t ∧ t ≤ 3 ∧ (t + 4).tmod 4 = (j : Int) ∧ j < 4 := by
  have hb : -3 ≤ n.tmod 4 ∧ n.tmod 4 ≤ 3 := by
    rcases Int.le_total 0 n with h | h
    · rw [Int.tmod_eq_emod_of_nonneg h]
      omega
    · have e : (-n).tmod 4 = -(n.tmod 4) := Int.neg_tmod n 4
      rw [Int.tmod_eq_emod_of_nonneg (by omega)] at e
      omega
  refine ⟨n.tmod 4, ((n.tmod 4 + 4).tmod 4).toNat, rfl, by omega, by omega, ?_, ?_⟩
  · rw [Int.tmod_eq_emod_of_nonneg (by omega)]
    omega
  · rw [Int.tmod_eq_emod_of_nonneg (by omega)]
    omega
theorem cut_err_le (l : List UInt8) : ∀ p q, cutP p l = .error q → q ≤ p + l.length := by
  refine cut_ind (P := fun l => ∀ p q, cutP p l = .error q → q ≤ p + l.length) (fun l ih p q h => ?_) l
  have hb := bl_le false l
  rw [cutP_eq p l] at h
  by_cases hl : l.drop (bl false l) = []
  · rw [if_pos hl] at h
    cases h
  · rw [if_neg hl] at h
    cases ho : oneT (l.drop (bl false l)) with
    | none =>
      rw [ho] at h
      injection h with h
      omega
    | some t =>
      rw [ho] at h
      have hn := oneT_len ho
      rw [List.length_drop] at hn
      simp only at h
      cases hc : cutP (p + bl false l + t.n) (l.drop (bl false l + t.n)) with
      | error q' =>
        rw [hc] at h
        injection h with h
        have := ih t hl ho _ _ hc
        rw [List.length_drop] at this
        omega
      | ok ts => rw [hc] at h; cases h
theorem cut_len (l : List UInt8) : ∀ p ts, cutP p l = .ok ts → ts.length ≤ l.length + 1 := by
  refine cut_ind (P := fun l => ∀ p ts, cutP p l = .ok ts → ts.length ≤ l.length + 1) (fun l ih p ts h => ?_) l
  have hb := bl_le false l
  rw [cutP_eq p l] at h
  by_cases hl : l.drop (bl false l) = []
  · rw [if_pos hl] at h
    injection h with h
    subst h
    simp
  · rw [if_neg hl] at h
    cases ho : oneT (l.drop (bl false l)) with
    | none =>
      rw [ho] at h
      cases h
    | some t =>
      rw [ho] at h
      have hn := oneT_len ho
      rw [List.length_drop] at hn
      simp only at h
      cases hc : cutP (p + bl false l + t.n) (l.drop (bl false l + t.n)) with
      | error q' => rw [hc] at h; cases h
      | ok us =>
        rw [hc] at h
        injection h with h
        subst h
        have := ih t hl ho _ _ hc
        rw [List.length_drop] at this
        rw [List.length_cons]
        omega
theorem places {l : List UInt8} {ts : List T} (h : cutP 0 l = .ok ts) : ∀ j (hj : j < ts.length), ts[j].p ≤ l.length := fun j hj => by
  have := (cut_parts l 0 ts h).2.1 ts[j] (List.getElem_mem hj)
  omega
/-- A box in which a token was stored. -/
theorem kept4 {w : World} {b : Nat} {u : T} (h : TBox w b u) (t : T) : ((((w.setCell ⟨b, 0, none⟩ (.int .i64 t.k)).setCell ⟨b, 1, none⟩ (.string (str t.s))).setCell ⟨b, 2, none⟩ (.int .i64 t.i)).setCell ⟨b, 3, none⟩ (.int .i64 t.p)).cell? ⟨b, 0, none⟩ = some (.int .i64 t.k) ∧
    ((((w.setCell ⟨b, 0, none⟩ (.int .i64 t.k)).setCell ⟨b, 1, none⟩ (.string (str t.s))).setCell ⟨b, 2, none⟩ (.int .i64 t.i)).setCell ⟨b, 3, none⟩ (.int .i64 t.p)).cell? ⟨b, 1, none⟩ = some (.string (str t.s)) ∧
    ((((w.setCell ⟨b, 0, none⟩ (.int .i64 t.k)).setCell ⟨b, 1, none⟩ (.string (str t.s))).setCell ⟨b, 2, none⟩ (.int .i64 t.i)).setCell ⟨b, 3, none⟩ (.int .i64 t.p)).cell? ⟨b, 2, none⟩ = some (.int .i64 t.i) ∧
    ((((w.setCell ⟨b, 0, none⟩ (.int .i64 t.k)).setCell ⟨b, 1, none⟩ (.string (str t.s))).setCell ⟨b, 2, none⟩ (.int .i64 t.i)).setCell ⟨b, 3, none⟩ (.int .i64 t.p)).cell? ⟨b, 3, none⟩ = some (.int .i64 t.p) ∧
    ∀ j, j < 4 → ((((w.setCell ⟨b, 0, none⟩ (.int .i64 t.k)).setCell ⟨b, 1, none⟩ (.string (str t.s))).setCell ⟨b, 2, none⟩ (.int .i64 t.i)).setCell ⟨b, 3, none⟩ (.int .i64 t.p)).frozen? ⟨b, j, none⟩ = false := by
  have o := fun (W : World) (i j : Nat) (h : i ≠ j) (y : Value) => World.cell?_setCell_other W ⟨b, j, none⟩ ⟨b, i, none⟩ y (by simp <;> omega)
  obtain ⟨c0, c1, c2, c3⟩ := h.cells
  refine ⟨?_, ?_, ?_, ?_, fun j _ => ?_⟩
  · rw [o _ 0 3 (by omega), o _ 0 2 (by omega), o _ 0 1 (by omega)]
    exact World.cell?_setCell_same _ _ _ c0
  · rw [o _ 1 3 (by omega), o _ 1 2 (by omega)]
    exact World.cell?_setCell_same _ _ _ (by rw [o _ 1 0 (by omega)]; exact c1)
  · rw [o _ 2 3 (by omega)]
    exact World.cell?_setCell_same _ _ _ (by rw [o _ 2 1 (by omega), o _ 2 0 (by omega)]; exact c2)
  · exact World.cell?_setCell_same _ _ _ (by rw [o _ 3 2 (by omega), o _ 3 1 (by omega), o _ 3 0 (by omega)]; exact c3)
  · rw [World.frozen?_setCell, World.frozen?_setCell, World.frozen?_setCell, World.frozen?_setCell]
    exact Lib.frozen_of_heap h j
set_option maxRecDepth 100000 in
set_option maxHeartbeats 4000000 in
theorem blanks_core (s : ByteArray) (n : Int) (w : World) (hE : Env w) (hn : -9223372036854775808 ≤ n ∧ n ≤ 9223372036854775807) : Calls Tryd.prog 6 #[.string s, .int .i64 n] w fun e w' => e = .returned (.bool true) ∧ Below w.heap.size w w' := by
  have HE := Lib.hid hE
  have HL := Lib.hid live_any
  obtain ⟨t, j, z1, z2, z3, z4, z5⟩ := tmod4 n
  have HI := Lib.hid (fun w => ahead_index w j z5)
  have hal := ahead_len j
  have has := str_size (ahead j)
  have HU : Hid (cutP 0 (str (ahead j) ++ s).data.toList = upE (str (ahead j)).size (cutP 0 s.data.toList)) := by
    show _ = _
    rw [app_list, str_list, ahead_cut, has]
  rw [← has] at hal
  clear has hE
  generalize str (ahead j) = a at *
  obtain ⟨hn1, hn2⟩ := hn
  obtain ⟨ha1, ha2⟩ := hal
  by_cases hs : 4000 < s.size
  · have hsz : (4000 : Int) < (s.size : Int) := by omega
    go_enter Tryd.func6, Tryd.ntmps6
    go_wp2_with fail
    refine (HL.out _ HE.out).mono ?_
    rintro e w1 ⟨rfl, b1⟩
    have hi := HI.out w1
    go_wp2_with fail
    go_ret
    exact ⟨rfl, b1⟩
  · have hsz : ¬ ((4000 : Int) < (s.size : Int)) := by omega
    have HC := Lib.hid (fun w hE => cut_any s w hE (by omega))
    have HD := Lib.hid (fun w hE => cut_any (a ++ s) w hE (by rw [size_app]; omega))
    cases hc : cutP 0 s.data.toList with
    | error q =>
      have HU2 : Hid (cutP 0 (a ++ s).data.toList = .error (q + a.size)) := by
        show _ = _
        rw [HU.out, hc]
        rfl
      go_enter Tryd.func6, Tryd.ntmps6
      go_wp2_with fail
      refine (HL.out _ HE.out).mono ?_
      rintro e w1 ⟨rfl, b1⟩
      have hi := HI.out w1
      go_wp2_with fail
      refine (HC.out _ (HE.out.later b1)).mono ?_
      intro e w2 h2
      obtain ⟨rfl, b2⟩ := h2.err hc
      have B2 := bthen b1 b2
      clear h2
      go_wp2_with fail
      refine (HD.out _ (HE.out.later B2)).mono ?_
      intro e w3 h3
      obtain ⟨rfl, b3⟩ := h3.err HU2.out
      have B3 := bthen B2 b3
      clear h3
      have hq : ((q + a.size : Nat) : Int) = (q : Int) + (a.size : Int) := Int.natCast_add _ _
      rw [hq]
      have hql := cut_err_le _ _ _ hc
      rw [size_list] at hql
      go_wp2_with fail
      refine wp_loop_rounds 1 ?_
      rw [rounds_succ]
      go_wp2_with fail
      go_ret
      exact ⟨rfl, B3⟩
    | ok ts =>
      have HU2 : Hid (cutP 0 (a ++ s).data.toList = .ok (ts.map (T.up a.size))) := by
        show _ = _
        rw [HU.out, hc]
        rfl
      have hpl := places hc
      rw [size_list] at hpl
      have hmb := cut_len _ _ _ hc
      rw [size_list] at hmb
      have HP := Lib.hid hpl
      have HCC := Lib.hid hc
      obtain ⟨m, hm⟩ : ∃ m, m = ts.length := ⟨_, rfl⟩
      have HM := Lib.hid hm
      rw [← hm] at hmb
      have HM2 : Hid ((ts.map (T.up a.size)).length = m) := by show _ = _; rw [List.length_map, hm]
      clear hpl hc hm
      go_enter Tryd.func6, Tryd.ntmps6
      go_wp2_with fail
      refine (HL.out _ HE.out).mono ?_
      rintro e w1 ⟨rfl, b1⟩
      have hi := HI.out w1
      go_wp2_with fail
      refine (HC.out _ (HE.out.later b1)).mono ?_
      intro e w2 h2
      obtain ⟨⟨A1, k1, he, -, t1⟩, b2⟩ := h2.ok HCC.out
      rw [← HM.out] at he
      subst he
      have B2 := bthen b1 b2
      clear h2
      go_wp2_with fail
      refine (HD.out _ (HE.out.later B2)).mono ?_
      intro e w3 h3
      obtain ⟨⟨A2, k2, he, -, t2⟩, b3⟩ := h3.ok HU2.out
      rw [HM2.out] at he
      subst he
      have B3 := Lib.hid (bthen B2 b3)
      have T1 := Lib.hid (t1.later b3)
      have T2 := Lib.hid t2
      clear h3 t1 t2 b1 b2 b3 B2
      go_wp2_with fail
      go_loopw [64] (fun i wr => ∃ k : Nat, k ≤ m ∧ i = .int .i64 k ∧ Hid (Below w3.heap.size w3 wr)) (fun i _ => m - (intOf i).toNat)
      case atStart => exact ⟨0, Nat.zero_le _, rfl, Below.refl _ _⟩
      case round =>
        obtain ⟨k, hk, rfl, HB⟩ := hrel
        by_cases hlt : k < m
        · have hkt : k < ts.length := by rw [← HM.out]; exact hlt
          have hku : k < (ts.map (T.up a.size)).length := by rw [HM2.out]; exact hlt
          have hwz := HB.out.size
          obtain ⟨p1, o1, rfl, -, d⟩ := (T1.out.later HB.out) (by omega)
          obtain ⟨p2, o2, rfl, hp2, d'⟩ := (T2.out.later HB.out) (by omega)
          obtain ⟨c0, c1, c2, c3⟩ := d k hkt
          obtain ⟨g0, g1, g2, g3⟩ := d' k hku
          have hpk := HP.out k hkt
          rw [List.getElem_map] at g0 g1 g2 g3
          generalize ts[k] = u at *
          unfold T.up at g0 g1 g2 g3
          simp only at g0 g1 g2 g3
          rw [Int.natCast_add] at g3
          clear d d'
          have bz := zbox wr
          have hb0 := (Below.refl wr.heap.size wr).alloc (Nat.le_refl _) (.cells #[.int .i64 0, .string ⟨#[]⟩, .int .i64 0, .int .i64 0] 30)
          have hz0 : (wr.alloc (.cells #[.int .i64 0, .string ⟨#[]⟩, .int .i64 0, .int .i64 0] 30)).heap.size = wr.heap.size + 1 := by simp
          obtain ⟨W2, hW2⟩ : ∃ W2, W2 = wr.alloc (.cells #[.int .i64 0, .string ⟨#[]⟩, .int .i64 0, .int .i64 0] 30) := ⟨_, rfl⟩
          rw [← hW2] at bz hb0 hz0
          obtain ⟨W3, hW3⟩ : ∃ W3, W3 = ((((W2.setCell ⟨wr.heap.size, 0, none⟩ (.int .i64 u.k)).setCell ⟨wr.heap.size, 1, none⟩ (.string (str u.s))).setCell ⟨wr.heap.size, 2, none⟩ (.int .i64 u.i)).setCell ⟨wr.heap.size, 3, none⟩ (.int .i64 u.p)) := ⟨_, rfl⟩
          obtain ⟨W4, hW4⟩ : ∃ W4, W4 = W3.setCell ⟨wr.heap.size, 3, none⟩ (.int .i64 ((u.p : Int) + (a.size : Int))) := ⟨_, rfl⟩
          obtain ⟨x0, x1, x2, x3⟩ := bz.zcells
          obtain ⟨f0, f1, f2, f3⟩ := bz.free
          obtain ⟨y0, y1, y2, y3, yf⟩ := kept4 bz u
          have b3 := Below.set4 hb0 (Nat.le_refl _) (.int .i64 u.k) (.string (str u.s)) (.int .i64 u.i) (.int .i64 u.p)
          rw [← hW3] at y0 y1 y2 y3 yf b3
          have yf3 := yf 3 (by omega)
          have o4 := fun (j : Nat) (h : j ≠ 3) => World.cell?_setCell_other W3 ⟨wr.heap.size, 3, none⟩ ⟨wr.heap.size, j, none⟩ (.int .i64 ((u.p : Int) + (a.size : Int))) (by simp <;> omega)
          have q3 := World.cell?_setCell_same W3 ⟨wr.heap.size, 3, none⟩ (.int .i64 ((u.p : Int) + (a.size : Int))) y3
          have b4 := b3.setCell (Nat.le_refl _) (p := ⟨wr.heap.size, 3, none⟩) (.int .i64 ((u.p : Int) + (a.size : Int)))
          have q0 := (o4 0 (by omega)).trans y0
          have q1 := (o4 1 (by omega)).trans y1
          have q2 := (o4 2 (by omega)).trans y2
          rw [← hW4] at q0 q1 q2 q3 b4
          have i0 := (b4.cell (p := ⟨p2, o2 + k * 4, none⟩) hp2).trans g0
          have i1 := (b4.cell (p := ⟨p2, o2 + k * 4 + 1, none⟩) hp2).trans g1
          have i2 := (b4.cell (p := ⟨p2, o2 + k * 4 + 2, none⟩) hp2).trans g2
          have i3 := (b4.cell (p := ⟨p2, o2 + k * 4 + 3, none⟩) hp2).trans g3
          have HW2 := Lib.hid hW2
          have HW3 := Lib.hid hW3
          have HW4 := Lib.hid hW4
          have HB4 := Lib.hid (bthen HB.out b4)
          have hpz : (u.p : Int) ≤ 4000 := by omega
          clear hW2 hW3 hW4 b3 b4 bz hb0 o4 yf g0 g1 g2 g3 HB
          go_wp2_with (first | (rw [← HW4.out]) | (rw [← HW3.out]) | (rw [← HW2.out]))
          go_region
          go_wp2_with fail
          go_roundw
          case measure => simp [intOf]; omega
          case rel => exact ⟨k + 1, by omega, by go_num, HB4.out.drew⟩
        · have hkm : k = m := by omega
          subst hkm
          go_wp2_with fail
          go_ret
          exact ⟨rfl, bthen B3.out HB.out⟩
end Go.Proofs.YtjnecobamobieaaDoor
