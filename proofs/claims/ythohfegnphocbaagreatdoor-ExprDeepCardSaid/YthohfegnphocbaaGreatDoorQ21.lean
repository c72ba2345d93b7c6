/- Contract of the reader's asked at a sign, or LIKE. Condition: what stands ahead is no deeper than forty, while nothing was too deep. -/
import Derived.Test.YthohfegnphocbaaGreatDoorQ20
import Derived.Test.YthohfegnphocbaaGreatDoorQ15
import Derived.Shelf.Spec.SlicesInsert
import Derived.Lib.AppendZerosOnto
namespace Go.Proofs.YthohfegnphocbaaGreatDoor
open Go.RowKit
def opX (a : E) (o : List UInt8) : X E → X E
  | .error q => .error q
  | .ok (b, m) => .ok (op1 o [a, b], m)
theorem opX_eq (a : E) (o : List UInt8) (x : X E) : (seqX x fun b _ => okX (op1 o [a, b]) 0) = opX a o x := by rcases x with q | ⟨a, m⟩ <;> simp [seqX, okX, opX]
theorem tooDp_two (d : Bool) (o : List UInt8) (a b : E) (h : d = false → a.deep ≤ 40) : tooDp (tooDp d b) (op1 o [a, b]) = tooDp d (op1 o [a, b]) := by
  have h1 : tooDpL d [a, b] = tooDp d b := by
    have := tooDpL_app d [a] b
    rw [tooDpL_one, tooDp_same h] at this
    exact this
  rw [← h1]
  exact tooDp_of d o v0 [] [] [a, b]
theorem two_le {d : Bool} {a b : E} (h : d = false → a.deep ≤ 40) : tooDp d b = false → E.deepL [a, b] ≤ 40 := fun hh => by
  obtain ⟨h1, h2⟩ := tooDp_le hh
  have := h h1
  simp only [E.deepL]; omega
set_option maxRecDepth 100000 in
set_option maxHeartbeats 8000000 in
theorem asked_op {ts : List T} (v : Nat) (hL : LineOk ts v) (w : World) (b : Nat) (A : Option Addr) (c p : Nat) (d : Bool) (h : RS w b ts A c p d) (hv : ts.length - p < v) (S : Nat → Prop) (a : E) (x : Value) (hx : Got w S a d x) (hd : d = false → a.deep ≤ 40) (hS : ∀ k, S k → k ≠ b) (o : List UInt8) (h1 : o ≠ wIn) (h2 : o ≠ wBetween) :
    Calls Tryz.prog 107 #[.pointer (some ⟨b, 0, none⟩), x, .string (str o)] w (Rp ts b A c p d w (Rs S w) (seqX (ln resB 5 (ts.drop p)) fun b _ => okX (op1 o [a, b]) 0)) := by
  rw [opX_eq]
  have hbw := h.lt
  obtain ⟨r, rfl, hs0, hr⟩ := hx.row
  have hs := hs0.lim
  simp only [rowCells]
  obtain ⟨W1, hW1, q1, z1, r1⟩ := box7 w (.string (str r.1.op)) (.int .i64 r.1.v.k) (.int .i64 r.1.v.i) (.string (str r.1.v.s)) (.string (str r.1.tb)) (.string (str r.1.nm)) (.slice r.2.1 r.1.l.length r.2.2)
  obtain ⟨W2, hW2, q2, z2, r2⟩ := zero7 W1
  rw [z1] at q2 z2
  have R2 : RS W2.drew b ts A c p d := ⟨((h.later r1).later r2).box, ((h.later r1).later r2).toks, h.hp⟩
  have q1' := (q1.later r2)
  have hs2 := (hs.later r1).later r2
  have F2 := (((Fr.refl b w.heap.size w).below r1 (Nat.le_refl _)).below r2 (by omega)).below ((Below.refl w.heap.size W2).drew) (Nat.le_refl _)
  have HL := Lib.hid (hL 5 p (by omega) (by omega) hv W2.drew b A c d R2)
  have HW1 := Lib.hid hW1
  have HW2 := Lib.hid hW2
  obtain ⟨m0, m1, m2, m3, m4, m5, m6⟩ := q1'.cells
  have e1 : ((str o).toList == [105, 110]) = false := by rw [Lib.toList_data, str_list]; simpa [wIn] using h1
  have e2 : ((str o).toList == [98, 101, 116, 119, 101, 101, 110]) = false := by rw [Lib.toList_data, str_list]; simpa [wBetween] using h2
  generalize ln resB 5 (ts.drop p) = xl at *
  obtain ⟨so, hso⟩ : ∃ so, so = str o := ⟨_, rfl⟩
  rw [← hso] at e1 e2 ⊢
  have HSO := Lib.hid hso
  have HQ1 : Hid (B7 W2.drew w.heap.size _ _ _ _ _ _ _) := q1'
  have HQ2 : Hid (B7 W2.drew (w.heap.size + 1) _ _ _ _ _ _ _) := q2
  have HS2 : Hid (Sub (fun k => S k ∧ k < w.heap.size) W2.drew r.1 r.2.1 r.2.2) := Lib.hid (hs2.later (w' := W2.drew) ((Below.refl _ W2).drew))
  have HF2 := Lib.hid F2
  have HT2 := Lib.hid R2.lt
  clear hW1 hW2 h hx hs0 q1 q2 r1 r2 R2 hs q1' hs2 F2 hL hso h1 h2
  rcases xl with q | ⟨a2, m⟩
  · simp only [opX]
    go_enter Tryz.func107, Tryz.ntmps107
    go_wp2_with (first | (rw [← HW2.out]) | (rw [← HW1.out]))
    go_region_with (go_at_call 34; refine (HL.out).mono ?_; rintro e w5 ⟨rfl, b5⟩; unfold gone; refine keepAny ?_ ?_; focus (go_wp2_with fail; exact ⟨rfl, rfl, (HF2.out.but b5 (by show _ ≤ W2.heap.size; omega)).end⟩))
    all_goals trivial
  · simp only [opX]
    go_enter Tryz.func107, Tryz.ntmps107
    go_wp2_with (first | (rw [← HW2.out]) | (rw [← HW1.out]))
    go_region_with (first
      | (go_at_call 34
         refine (HL.out).mono ?_
         rintro e w5 ⟨⟨y, rfl, g5, R5⟩, b5⟩
         obtain ⟨r2, rfl, ks5, kr5⟩ := g5.row
         simp only [rowCells]
         have q15 := b5.seven HQ1.out (by omega)
         have q25 := b5.seven HQ2.out (by omega)
         have zb5 : W2.heap.size ≤ w5.heap.size := b5.size
         have F5 := HF2.out.but b5 (by show _ ≤ W2.heap.size; omega)
         have ls5 := (HS2.out.but b5 (fun k hk => hS k hk.1))
         obtain ⟨n0, n1, n2, n3, n4, n5, n6⟩ := q15.cells
         obtain ⟨_, rfl, r6, z6, H6⟩ := madeN R5 (S := fun k => (S k ∧ k < w.heap.size) ∨ W2.heap.size ≤ k) [r, r2] [a, a2] (fun q hq => by
           rcases List.mem_cons.1 hq with rfl | hq
           · exact ls5.keep (fun k hk _ => ⟨.inl hk, rfl⟩) (Nat.le_refl _)
           · rw [List.mem_singleton] at hq
             subst hq
             exact ks5.keep (fun k hk _ => ⟨.inr hk, rfl⟩) (Nat.le_refl _)) rfl (fun hh => by simp [hr (tooDp_le hh).1, kr5 hh]) (two_le hd) (fun k hk => by rcases hk with hk | hk; exact hS k hk.1; omega) (w.heap.size + 2) (by omega) (by omega) (by simp) 2 rfl o _ HSO.out
         have q26 := q25.later r6
         have F6 := F5.below r6 (by omega)
         simp only [flatE, rowCells, List.flatMap_cons, List.flatMap_nil, List.append_nil, List.cons_append, List.nil_append] at H6 q26 F6 z6
         have H6' := Lib.hid H6
         have HQ6 := Lib.hid q26
         have HF6 := Lib.hid F6
         have Hz6 := Lib.hid z6
         have HR5z := Lib.hid zb5
         clear H6 q26 F6 z6 r6 ls5 F5 q25 q15 R5 g5 b5 ks5 kr5 zb5)
      | (go_at_call 68
         refine (H6'.out).mono ?_
         rintro e w7 ⟨y, rfl, g7, R7, b7⟩
         have e6 := Hz6.out
         have e7 := HR5z.out
         have F7 := HF6.out.but b7 (by omega)
         have q7 := b7.seven HQ6.out (by omega)
         obtain ⟨t0, j1, j2, t3, t4, t5, A9, n9, c9, rfl⟩ := g7.agg
         obtain ⟨W8, hW8, q8, R8, G8, b8, z8, o8⟩ := put7 (S := fun k => ((S k ∧ k < w.heap.size) ∨ W2.heap.size ≤ k) ∨ w.heap.size + 2 ≤ k) R7 g7 q7 (by omega) (fun k hk => by
           rcases hk with (hk | hk) | hk
           · have := hk.2; omega
           · omega
           · omega)
         have HW8 := Lib.hid hW8
         obtain ⟨k0, k1, k2, k3, k4, k5, k6⟩ := q7.cells
         obtain ⟨f0, f1, f2, f3, f4, f5, f6⟩ := q7.free
         obtain ⟨l0, l1, l2, l3, l4, l5, l6⟩ := q8.cells
         rw [tooDp_two d o a a2 hd] at R8 G8
         have HR := Lib.hid R8
         have HGG := Lib.hid (G8.wide (S' := Rs S w) (fun k hk _ => by
           rcases hk with (hk | hk) | hk
           · exact .inl hk.1
           · exact .inr (by omega)
           · exact .inr (by omega)))
         have HB := Lib.hid (F7.below (b8 _ (Nat.le_succ _)) (Nat.le_refl _)).end
         clear hW8 q7 q8 R7 R8 G8 g7 b7 b8 o8 F7 e6 e7))
    all_goals
      go_wp2_with (rw [← HW8.out])
      exact bodyPost_ret (v := .agg #[.string t0, .int .i64 j1, .int .i64 j2, .string t3, .string t4, .string t5, .slice A9 n9 c9]) (by simp [results, Tryz.results107, go_sem, l0, l1, l2, l3, l4, l5, l6]) rfl ⟨⟨_, rfl, HGG.out, HR.out⟩, HB.out⟩
end Go.Proofs.YthohfegnphocbaaGreatDoor
namespace Go.Proofs.YthohfegnphocbaaGreatDoor
open Go.RowKit
theorem run_copy_row7 (w : World) (ty : TypeId) (g o dLen dCap : Nat) (a : Addr) (sLen sCap : Nat) (cur : Array Value) (t : TypeId) (cs : List Value)
    (hg : w.heap[g]? = some (.cells cur t (0, 0))) (hn : cs.length = 7 * Nat.min sLen dLen)
    (hsrc : ∀ j v, cs[j]? = some v → w.cell? (a.add j) = some v) (hfit : o + cs.length ≤ cur.size) (h1 : ∀ v ∈ cs, v.oneCell' = true) :
    (Builtin.copy_ #[25, 25] ty #[.slice (some ⟨g, o, none⟩) dLen dCap, .slice (some a) sLen sCap]).run Tryz.prog w =
      .ok (goInt (Nat.min sLen dLen)) (w.setRow g (cur.toList.take o ++ cs ++ cur.toList.drop (o + cs.length)).toArray) := by
  have hl := run_loadCells_list (P := Tryz.prog) w a cs hsrc
  have hst := run_storeCells_at Tryz.prog g o t cs 0 cur w hg (by simpa using hfit) h1
  obtain ⟨i0, hi, hz0, hz1, hz2⟩ := info_parts info27
  have hu : Tryz.prog.underlying 25 = some (.slice 27) := Tryz.underlying25
  rw [hn, Nat.mul_comm] at hl
  simp [Builtin.copy_, run_underlying hu, Builtin.lenOf, Builtin.firstCells, sizeOf, typeInfo, hi, hz1, hl, hst]
theorem zero_size (zs : Array Value) (n : Nat) : (Builtin.zeroCells zs n).size = n * zs.size := by simp [Builtin.zeroCells]
set_option maxRecDepth 100000 in
set_option maxHeartbeats 4000000 in
theorem insert_room (w : World) (g n c H : Nat) (cur new : Array Value) (cs : List Value) (hg : w.heap[g]? = some (.cells cur 27 (0, 0))) (hH : w.heap[H]? = some (.cells new 27 (0, 0))) (hne : H ≠ g) (h0 : 0 < n) (hroom : n + 1 ≤ c) (hc : c ≤ 9223372036854775807)
    (hcur : cur.size = c * 7) (hcs : cur.toList.take (n * 7) = cs) (hnew : new.size = 7) (h1 : ∀ u ∈ cs, u.oneCell' = true) (h1n : ∀ u ∈ new.toList, u.oneCell' = true) (hn : n ≤ 5000) :
    Calls Tryz.prog 142 #[.slice (some ⟨g, 0, none⟩) n c, .int .i64 0, .slice (some ⟨H, 0, none⟩) 1 1] w fun e w' => e = .returned (.slice (some ⟨g, 0, none⟩) (n + 1) c) ∧
      (∃ cur2 : Array Value, w'.heap[g]? = some (.cells cur2 27 (0, 0)) ∧ cur2.size = c * 7 ∧ cur2.toList.take ((n + 1) * 7) = new.toList ++ cs) ∧ w'.os = w.os ∧ w'.tape = w.tape ∧ w'.output = w.output ∧ w'.heap.size = w.heap.size ∧ ∀ k, k ≠ g → w'.heap[k]? = w.heap[k]? := by
  have hlcs : cs.length = n * 7 := by rw [← hcs, List.length_take, Array.length_toList, hcur]; omega
  have hcg : ∀ j v, cs[j]? = some v → w.cell? ((⟨g, 0, none⟩ : Addr).add j) = some v := fun j v hj => by
    rw [WideShapes.add_plain, Lib.cell_of_heap hg]
    rw [← hcs, List.getElem?_take] at hj
    split at hj
    · simpa using hj
    · cases hj
  have hov : ∀ lb cb, (callFunc 172 #[.slice (some ⟨H, 0, none⟩) 1 1, .slice (some ⟨g, 7, none⟩) lb cb]).run Tryz.prog w = .ok (.value (.bool false)) w := fun lb cb => by
    rw [run_callFunc_extern Tryz.func172 (by kernel_rfl) (by kernel_rfl) (by kernel_rfl) (e := Extern.SlicesOverlaps.overlaps #[25, 25] #[4]) (by kernel_rfl),
      Lib.run_overlaps_apart w 25 4 27 Tryz.underlying25 7 (fun w => by
        obtain ⟨i0, hi, hz0, hz1, hz2⟩ := info_parts info27
        simp [sizeOf, typeInfo, hi, hz1]) ⟨H, 0, none⟩ ⟨g, 7, none⟩ 1 1 lb cb hne 27 27 7 (c * 7) (by simp [World.shape?, hH, hnew]) (by simp [World.shape?, hg, hcur]) (by omega) (Lib.frozen_of_heap hH 0) (Lib.frozen_of_heap hH 7)]
    rfl
  have hcp1 : ∀ ty dc sc, (Builtin.copy_ #[25, 25] ty #[.slice (some ⟨g, 7, none⟩) n dc, .slice (some ⟨g, 0, none⟩) (n + 1) sc]).run Tryz.prog w.drew = .ok (goInt n) (w.drew.setRow g (cur.toList.take 7 ++ cs ++ cur.toList.drop (7 + cs.length)).toArray) := fun ty dc sc => by
    have := run_copy_row7 w.drew ty g 7 n dc ⟨g, 0, none⟩ (n + 1) sc cur 27 cs hg (by rw [hlcs]; simp only [Nat.min_def]; split <;> omega) (fun j v hj => hcg j v hj) (by rw [hlcs, hcur]; omega) h1
    rw [this]
    congr 2
    simp only [Nat.min_def]; split <;> omega
  obtain ⟨W1, hW1⟩ : ∃ W1, W1 = w.drew.setRow g (cur.toList.take 7 ++ cs ++ cur.toList.drop (7 + cs.length)).toArray := ⟨_, rfl⟩
  have hg1 : W1.heap[g]? = some (.cells (cur.toList.take 7 ++ cs ++ cur.toList.drop (7 + cs.length)).toArray 27 (0, 0)) := by rw [hW1]; exact setRow_heap _ _ _ _ _ _ hg
  have hH1 : W1.heap[H]? = some (.cells new 27 (0, 0)) := by rw [hW1, setRow_other _ _ _ _ hne]; exact hH
  have hs1 : ((cur.toList.take 7 ++ cs ++ cur.toList.drop (7 + cs.length)).toArray : Array Value).size = c * 7 := by
    simp [hlcs, hcur]; omega
  have hcp2 : ∀ ty dc, (Builtin.copy_ #[25, 25] ty #[.slice (some ⟨g, 0, none⟩) (n + 1) dc, .slice (some ⟨H, 0, none⟩) 1 1]).run Tryz.prog W1 = .ok (goInt 1) (W1.setRow g (([] : List Value) ++ new.toList ++ (cur.toList.take 7 ++ cs ++ cur.toList.drop (7 + cs.length)).drop (0 + new.toList.length)).toArray) := fun ty dc => by
    have := run_copy_row7 W1 ty g 0 (n + 1) dc ⟨H, 0, none⟩ 1 1 _ 27 new.toList hg1 (by simp [hnew]) (fun j v hj => by
      rw [WideShapes.add_plain, Lib.cell_of_heap hH1]
      simpa using hj) (by rw [hs1]; simp [hnew]; omega) h1n
    rw [this]
    simp
  have hfin : ∃ cur2 : Array Value, (W1.setRow g (([] : List Value) ++ new.toList ++ (cur.toList.take 7 ++ cs ++ cur.toList.drop (7 + cs.length)).drop (0 + new.toList.length)).toArray).heap[g]? = some (.cells cur2 27 (0, 0)) ∧ cur2.size = c * 7 ∧ cur2.toList.take ((n + 1) * 7) = new.toList ++ cs := by
    refine ⟨_, setRow_heap _ _ _ _ _ _ hg1, ?_, ?_⟩
    · simp [hnew, hlcs, hcur]; omega
    · have hl7 : (cur.toList.take 7).length = 7 := by rw [List.length_take, Array.length_toList, hcur]; omega
      rw [List.nil_append, Nat.zero_add, Array.length_toList, hnew, List.append_assoc, List.drop_append_of_le_length (by omega), List.drop_of_length_le (by omega), List.nil_append, ← List.append_assoc]
      rw [List.take_append_of_le_length (by simp [hnew, hlcs]; omega), List.take_of_length_le (by simp [hnew, hlcs]; omega)]
  have hoth : ∀ k, k ≠ g → (W1.setRow g (([] : List Value) ++ new.toList ++ (cur.toList.take 7 ++ cs ++ cur.toList.drop (7 + cs.length)).drop (0 + new.toList.length)).toArray).heap[k]? = w.heap[k]? := fun k hk => by
    rw [setRow_other _ _ _ _ hk, hW1, setRow_other _ _ _ _ hk]; rfl
  have hwo : W1.os = w.os ∧ W1.tape = w.tape ∧ W1.output = w.output ∧ W1.heap.size = w.heap.size := by rw [hW1]; exact ⟨rfl, rfl, rfl, by rw [setRow_size]; rfl⟩
  have HO2 : Hid ((W1.setRow g (([] : List Value) ++ new.toList ++ (cur.toList.take 7 ++ cs ++ cur.toList.drop (7 + cs.length)).drop (0 + new.toList.length)).toArray).os = w.os ∧ (W1.setRow g (([] : List Value) ++ new.toList ++ (cur.toList.take 7 ++ cs ++ cur.toList.drop (7 + cs.length)).drop (0 + new.toList.length)).toArray).tape = w.tape ∧ (W1.setRow g (([] : List Value) ++ new.toList ++ (cur.toList.take 7 ++ cs ++ cur.toList.drop (7 + cs.length)).drop (0 + new.toList.length)).toArray).output = w.output ∧ (W1.setRow g (([] : List Value) ++ new.toList ++ (cur.toList.take 7 ++ cs ++ cur.toList.drop (7 + cs.length)).drop (0 + new.toList.length)).toArray).heap.size = w.heap.size) := ⟨hwo.1, hwo.2.1, hwo.2.2.1, by rw [setRow_size]; exact hwo.2.2.2⟩
  rw [← hW1] at hcp1
  have HF := Lib.hid hfin
  have HO := Lib.hid hoth
  have HW := Lib.hid hwo
  have hnz : ¬ ((0 : Int) = (n : Int)) := by omega
  have hcn : ¬ ((c : Int) < (n : Int) + 1) := by omega
  have hn1 : IntKind.i64.wrap ((n : Int) + 1) = (n : Int) + 1 := by rw [IntKind.wrap_i64]; omega
  clear hfin hoth hwo hW1 hg1 hH1 hs1 hcg hlcs hcs hcur hH hg h1 h1n
  generalize (W1.setRow g (([] : List Value) ++ new.toList ++ (cur.toList.take 7 ++ cs ++ cur.toList.drop (7 + cs.length)).drop (0 + new.toList.length)).toArray) = W2 at *
  have mixed : Tryz.prog.follows Departure.mixedOrders = true := by kernel_rfl
  have hb2 : ¬ (c = 1) := by omega
  have hb4 : ¬ (c = 0) := by omega
  have hb3 : (1 : Int) ≤ (n : Int) + 1 := by omega
  have hb5 : (0 : Int) ≤ (n : Int) + 1 := by omega
  have hb6 : n + 1 ≤ c := hroom
  have hb7 : 1 ≤ n + 1 := by omega
  have hw1 : IntKind.i64.wrap 1 = 1 := by rw [IntKind.wrap_i64]; decide
  go_enter Tryz.func142, Tryz.ntmps142
  go_wp2_with (simp only [hov])
  go_region_law_o (refine step_copy_runI rfl _ _ 25 25 rfl _ _ (by simp [Act.eval, Act.put]) (by simp [Act.eval, Act.put]) (hcp1 _ _ _) ?_)
  go_wp2_with (at_builtin; refine wpList_copy_runI _ rfl _ _ 25 25 rfl _ _ rfl rfl (hcp2 _ _) ?_)
  go_ret
  exact ⟨rfl, HF.out, HO2.out.1, HO2.out.2.1, HO2.out.2.2.1, HO2.out.2.2.2, HO.out⟩
set_option maxRecDepth 100000 in
set_option maxHeartbeats 4000000 in
theorem insert_grow (w : World) (g n c H : Nat) (cur new : Array Value) (cs : List Value) (hg : w.heap[g]? = some (.cells cur 27 (0, 0))) (hH : w.heap[H]? = some (.cells new 27 (0, 0))) (h0 : 0 < n) (hroom : ¬ n + 1 ≤ c) (hnc : n ≤ c)
    (hcur : cur.size = c * 7) (hcs : cur.toList.take (n * 7) = cs) (hnew : new.size = 7) (h1 : ∀ u ∈ cs, u.oneCell' = true) (h1n : ∀ u ∈ new.toList, u.oneCell' = true) (hn : n ≤ 5000) :
    Calls Tryz.prog 142 #[.slice (some ⟨g, 0, none⟩) n c, .int .i64 0, .slice (some ⟨H, 0, none⟩) 1 1] w fun e w' => ∃ c2, e = .returned (.slice (some ⟨w.heap.size, 0, none⟩) (n + 1) c2) ∧ n + 1 ≤ c2 ∧ c2 ≤ maxLen ∧
      (∃ cur2 : Array Value, w'.heap[w.heap.size]? = some (.cells cur2 27 (0, 0)) ∧ cur2.size = c2 * 7 ∧ cur2.toList.take ((n + 1) * 7) = new.toList ++ cs) ∧ w'.os = w.os ∧ w'.tape = w.tape ∧ w'.output = w.output ∧ w'.heap.size = w.heap.size + 1 ∧ ∀ k, k < w.heap.size → w'.heap[k]? = w.heap[k]? := by
  have hlcs : cs.length = n * 7 := by rw [← hcs, List.length_take, Array.length_toList, hcur]; omega
  have hcg : ∀ j v, cs[j]? = some v → w.cell? ((⟨g, 0, none⟩ : Addr).add j) = some v := fun j v hj => by
    rw [WideShapes.add_plain, Lib.cell_of_heap hg]
    rw [← hcs, List.getElem?_take] at hj
    split at hj
    · simpa using hj
    · cases hj
  have hcH : ∀ j v, new.toList[j]? = some v → w.cell? ((⟨H, 0, none⟩ : Addr).add j) = some v := fun j v hj => by
    rw [WideShapes.add_plain, Lib.cell_of_heap hH]
    simpa using hj
  have hglt : g < w.heap.size := (Array.getElem?_eq_some_iff.1 hg).1
  have hHlt : H < w.heap.size := (Array.getElem?_eq_some_iff.1 hH).1
  obtain ⟨i0, hi, hz0, hz1, hz2⟩ := info_parts info27
  have hap := Lib.run_append_grow_zeros (P := Tryz.prog) w 25 3 25 27 i0 _ .i64 .i64 Tryz.underlying25 Tryz.underlying3 hi hz0 (some ⟨g, 0, none⟩) 0 c [] (by simp [Builtin.firstCells, loadCells, hz1]; rfl) (n + 1) (by omega) (by omega) (by omega) (by omega) (by rw [hz2]; omega) (by have := nextslicecap_le (need := 0 + (n + 1)) (old := c) (by omega); rw [hz2]; omega)
  rw [Nat.zero_add] at hap
  have hge := grownCap_ge w (n + 1) c 27
  have hle := grownCap_le_maxLen w (n + 1) c 27 (by unfold maxLen; omega)
  generalize grownCap w (n + 1) c 27 = c2 at *
  obtain ⟨cur0, hcur0⟩ : ∃ cur0 : Array Value, cur0 = ([] : List Value).toArray ++ Builtin.zeroCells (Value.agg #[.string ⟨#[]⟩, .int .i64 0, .int .i64 0, .string ⟨#[]⟩, .string ⟨#[]⟩, .string ⟨#[]⟩, .slice none 0 0]).cells (n + 1) ++ Builtin.zeroCells (Value.agg #[.string ⟨#[]⟩, .int .i64 0, .int .i64 0, .string ⟨#[]⟩, .string ⟨#[]⟩, .string ⟨#[]⟩, .slice none 0 0]).cells (c2 - (n + 1)) := ⟨_, rfl⟩
  rw [← hcur0] at hap
  have hs0 : cur0.size = c2 * 7 := by
    rw [hcur0, Array.size_append, Array.size_append, zero_size, zero_size]
    show 0 + (n + 1) * 7 + (c2 - (n + 1)) * 7 = _
    omega
  obtain ⟨W0, hW0⟩ : ∃ W0, W0 = w.drew.alloc (.cells cur0 27) := ⟨_, rfl⟩
  rw [← hW0] at hap
  have hz0 : W0.heap.size = w.heap.size + 1 := by rw [hW0]; simp
  have hg0 : W0.heap[w.heap.size]? = some (.cells cur0 27 (0, 0)) := by rw [hW0]; exact heap_alloc_new w.drew _
  have ho0 : ∀ k, k < w.heap.size → W0.heap[k]? = w.heap[k]? := fun k hk => by rw [hW0]; exact Below.heap_alloc w.drew _ k hk
  have hcp1 : ∀ ty dc, (Builtin.copy_ #[25, 25] ty #[.slice (some ⟨w.heap.size, 0, none⟩) (n + 1) dc, .slice (some ⟨H, 0, none⟩) 1 1]).run Tryz.prog W0 = .ok (goInt 1) (W0.setRow w.heap.size (([] : List Value) ++ new.toList ++ cur0.toList.drop (0 + new.toList.length)).toArray) := fun ty dc => by
    have := run_copy_row7 W0 ty w.heap.size 0 (n + 1) dc ⟨H, 0, none⟩ 1 1 cur0 27 new.toList hg0 (by simp [hnew]) (fun j v hj => by
      have e := hcH j v hj
      rw [WideShapes.add_plain] at e ⊢
      exact (World.cell?_of_block (w := w) (a := ⟨H, _, none⟩) (ho0 H hHlt)).trans e) (by rw [hs0]; simp [hnew]; omega) h1n
    rw [this]
    simp
  obtain ⟨W1, hW1⟩ : ∃ W1, W1 = W0.setRow w.heap.size (([] : List Value) ++ new.toList ++ cur0.toList.drop (0 + new.toList.length)).toArray := ⟨_, rfl⟩
  rw [← hW1] at hcp1
  have hg1 : W1.heap[w.heap.size]? = some (.cells (([] : List Value) ++ new.toList ++ cur0.toList.drop (0 + new.toList.length)).toArray 27 (0, 0)) := by rw [hW1]; exact setRow_heap _ _ _ _ _ _ hg0
  have hs1 : ((([] : List Value) ++ new.toList ++ cur0.toList.drop (0 + new.toList.length)).toArray : Array Value).size = c2 * 7 := by simp [hnew, hs0]; omega
  have ho1 : ∀ k, k < w.heap.size → W1.heap[k]? = w.heap[k]? := fun k hk => by rw [hW1, setRow_other _ _ _ _ (by omega)]; exact ho0 k hk
  have hcp2 : ∀ ty dc sc, (Builtin.copy_ #[25, 25] ty #[.slice (some ⟨w.heap.size, 7, none⟩) n dc, .slice (some ⟨g, 0, none⟩) n sc]).run Tryz.prog W1.drew = .ok (goInt n) (W1.drew.setRow w.heap.size ((([] : List Value) ++ new.toList ++ cur0.toList.drop (0 + new.toList.length)).take 7 ++ cs ++ (([] : List Value) ++ new.toList ++ cur0.toList.drop (0 + new.toList.length)).drop (7 + cs.length)).toArray) := fun ty dc sc => by
    have := run_copy_row7 W1.drew ty w.heap.size 7 n dc ⟨g, 0, none⟩ n sc _ 27 cs hg1 (by rw [hlcs]; simp only [Nat.min_def]; split <;> omega) (fun j v hj => by
      have e := hcg j v hj
      rw [WideShapes.add_plain] at e ⊢
      exact (World.cell?_of_block (w := w) (w' := W1.drew) (a := ⟨g, _, none⟩) (ho1 g hglt)).trans e) (by rw [hs1, hlcs]; omega) h1
    rw [this]
    simp
  have hfin : ∃ cur2 : Array Value, (W1.drew.setRow w.heap.size ((([] : List Value) ++ new.toList ++ cur0.toList.drop (0 + new.toList.length)).take 7 ++ cs ++ (([] : List Value) ++ new.toList ++ cur0.toList.drop (0 + new.toList.length)).drop (7 + cs.length)).toArray).heap[w.heap.size]? = some (.cells cur2 27 (0, 0)) ∧ cur2.size = c2 * 7 ∧ cur2.toList.take ((n + 1) * 7) = new.toList ++ cs := by
    refine ⟨_, setRow_heap _ _ _ _ _ _ hg1, ?_, ?_⟩
    · simp [hnew, hlcs, hs0]; omega
    · have hl7 : new.toList.length = 7 := by rw [Array.length_toList, hnew]
      rw [List.nil_append, Nat.zero_add, hl7]
      rw [List.take_append_of_le_length (l₁ := new.toList) (by omega), List.take_of_length_le (l := new.toList) (by omega)]
      rw [List.take_append_of_le_length (by simp [hnew, hlcs]; omega), List.take_of_length_le (by simp [hnew, hlcs]; omega)]
  obtain ⟨W2, hW2⟩ : ∃ W2, W2 = W1.drew.setRow w.heap.size ((([] : List Value) ++ new.toList ++ cur0.toList.drop (0 + new.toList.length)).take 7 ++ cs ++ (([] : List Value) ++ new.toList ++ cur0.toList.drop (0 + new.toList.length)).drop (7 + cs.length)).toArray := ⟨_, rfl⟩
  rw [← hW2] at hcp2 hfin
  have ho2 : ∀ k, k < w.heap.size → W2.heap[k]? = w.heap[k]? := fun k hk => by rw [hW2, setRow_other _ _ _ _ (by omega)]; exact ho1 k hk
  have hwo : W2.os = w.os ∧ W2.tape = w.tape ∧ W2.output = w.output ∧ W2.heap.size = w.heap.size + 1 := by
    refine ⟨by rw [hW2, hW1, hW0]; rfl, by rw [hW2, hW1, hW0]; rfl, by rw [hW2, hW1, hW0]; rfl, ?_⟩
    rw [hW2, setRow_size]
    show W1.heap.size = _
    rw [hW1, setRow_size, hz0]
  have HF := Lib.hid hfin
  have HO := Lib.hid ho2
  have HW := Lib.hid hwo
  have HLE := Lib.hid hle
  have hnz : ¬ ((0 : Int) = (n : Int)) := by omega
  have hcn : (c : Int) < (n : Int) + 1 := by omega
  have hn1 : IntKind.i64.wrap ((n : Int) + 1) = (n : Int) + 1 := by rw [IntKind.wrap_i64]; omega
  have hn2 : IntKind.i64.wrap ((n : Int) + 1 - 0) = (n : Int) + 1 := by rw [IntKind.wrap_i64]; omega
  have mixed : Tryz.prog.follows Departure.mixedOrders = true := by kernel_rfl
  have hb2 : ¬ (c2 = 1) := by omega
  have hb4 : ¬ (c2 = 0) := by omega
  have hb8 : ¬ (c = 0) := by omega
  have hb3 : (1 : Int) ≤ (n : Int) + 1 := by omega
  have hb5 : (0 : Int) ≤ (n : Int) + 1 := by omega
  have hb7 : 1 ≤ n + 1 := by omega
  have hw1 : IntKind.i64.wrap 1 = 1 := by rw [IntKind.wrap_i64]; decide
  clear hfin ho2 hwo hW1 hW2 hW0 hg1 hg0 hs1 hs0 hz0 ho0 ho1 hcg hcH hlcs hcs hcur hcur0 hH hg h1 h1n hle hz1 hz2 hi
  simp only [Int.natCast_add, Int.natCast_one] at hap
  go_enter Tryz.func142, Tryz.ntmps142
  go_wp2_with (at_builtin; first | (refine Lib.wpList_append_run _ rfl _ _ _ _ rfl _ _ rfl rfl _ _ hap ?_) | (refine wpList_copy_runI _ rfl _ _ 25 25 rfl _ _ rfl rfl (hcp1 _ _) ?_))
  go_region_law_o (refine step_copy_runI rfl _ _ 25 25 rfl _ _ (by simp [Act.eval, Act.put]) (by simp [Act.eval, Act.put]) (hcp2 _ _ _) ?_)
  go_wp2_with fail
  go_ret
  exact ⟨_, rfl, hge, HLE.out, HF.out, HW.out.1, HW.out.2.1, HW.out.2.2.1, HW.out.2.2.2, HO.out⟩
theorem insert_any {w : World} {B : Nat} {S : Nat → Prop} {l : List E} {d : Bool} {v : Value} (h : OwnL w B S l d v) (h0 : 1 ≤ l.length) (hm : l.length ≤ 5000) (r : Rw) {e : E} (hs : Sub (fun k => S k ∧ v.ownBlock ≠ some k) w r.1 r.2.1 r.2.2) (hr : d = false → r.1 = e) (H : Nat) (hH : w.heap[H]? = some (.cells (rowCells r).toArray 27 (0, 0))) (hne : v.ownBlock ≠ some H) (hB : B ≤ w.heap.size) :
    Calls Tryz.prog 142 #[v, .int .i64 0, .slice (some ⟨H, 0, none⟩) 1 1] w fun x w' => ∃ v', x = .returned v' ∧ OwnL w' B S (e :: l) d v' ∧ w'.os = w.os ∧ w'.tape = w.tape ∧ w'.output = w.output ∧ w.heap.size ≤ w'.heap.size ∧ ∀ k, k < w.heap.size → v.ownBlock ≠ some k → w'.heap[k]? = w.heap[k]? := by
  obtain ⟨rs, h1, h2, h3, h4⟩ := h
  have hfl := flatE_one rs
  have hone := flatE_one [r]
  rcases h1.2 with ⟨hv, hz⟩ | ⟨g, cap, cur, hv, hBg, hg, hn, hcm, hcs, htk⟩
  · omega
  · subst hv
    have hgH : H ≠ g := fun e => hne (by rw [e]; rfl)
    have hnew : ((rowCells r).toArray : Array Value).size = 7 := rfl
    have h1n : ∀ u ∈ (rowCells r).toArray.toList, u.oneCell' = true := fun u hu => hone u (by simpa [flatE] using hu)
    have hglt : g < w.heap.size := (Array.getElem?_eq_some_iff.1 hg).1
    have hob : ∀ k, (Value.slice (some ⟨g, 0, none⟩) rs.length cap).ownBlock ≠ some k → k ≠ g := fun k hk e => hk (by rw [e]; rfl)
    by_cases hroom : rs.length + 1 ≤ cap
    · refine (insert_room w g rs.length cap H cur (rowCells r).toArray (flatE rs) hg hH hgH (by omega) hroom hcm hcs htk hnew hfl h1n (by omega)).mono ?_
      rintro x w' ⟨rfl, ⟨cur2, q1, q2, q3⟩, o1, o2, o3, o4, o5⟩
      refine ⟨_, rfl, ⟨r :: rs, ?_, ?_, by simp [h3], fun hd => by simp [h4 hd, hr hd]⟩, o1, o2, o3, by omega, fun k hk hkv => o5 k (hob k hkv)⟩
      · refine ⟨flatE_len _, .inr ⟨g, cap, cur2, rfl, hBg, q1, hroom, hcm, q2, ?_⟩⟩
        rw [List.length_cons, q3]
        rfl
      · intro q hq
        have keep : ∀ q : Rw, Sub (fun k => S k ∧ (Value.slice (some ⟨g, 0, none⟩) rs.length cap).ownBlock ≠ some k) w q.1 q.2.1 q.2.2 → Sub (fun k => S k ∧ (Value.slice (some ⟨g, 0, none⟩) (rs.length + 1) cap).ownBlock ≠ some k) w' q.1 q.2.1 q.2.2 := fun q hq => hq.keep (fun k hk _ => ⟨⟨hk.1, hk.2⟩, o5 k (hob k hk.2)⟩) (by omega)
        rcases List.mem_cons.1 hq with rfl | hq
        · exact keep _ hs
        · exact keep _ (h2 q hq)
    · refine (insert_grow w g rs.length cap H cur (rowCells r).toArray (flatE rs) hg hH (by omega) hroom hn hcs htk hnew hfl h1n (by omega)).mono ?_
      rintro x w' ⟨c2, rfl, hge, hle, ⟨cur2, q1, q2, q3⟩, o1, o2, o3, o4, o5⟩
      refine ⟨_, rfl, ⟨r :: rs, ?_, ?_, by simp [h3], fun hd => by simp [h4 hd, hr hd]⟩, o1, o2, o3, by omega, fun k hk _ => o5 k hk⟩
      · refine ⟨flatE_len _, .inr ⟨w.heap.size, c2, cur2, rfl, hB, q1, hge, hle, q2, ?_⟩⟩
        rw [List.length_cons, q3]
        rfl
      · intro q hq
        have keep : ∀ q : Rw, Sub (fun k => S k ∧ (Value.slice (some ⟨g, 0, none⟩) rs.length cap).ownBlock ≠ some k) w q.1 q.2.1 q.2.2 → Sub (fun k => S k ∧ (Value.slice (some ⟨w.heap.size, 0, none⟩) (rs.length + 1) c2).ownBlock ≠ some k) w' q.1 q.2.1 q.2.2 := fun q hq => hq.keep (fun k hk hlt => ⟨⟨hk.1, fun e => by injection e with e; simp at e; omega⟩, o5 k hlt⟩) (by omega)
        rcases List.mem_cons.1 hq with rfl | hq
        · exact keep _ hs
        · exact keep _ (h2 q hq)
end Go.Proofs.YthohfegnphocbaaGreatDoor
