/- Contracts of the library's Cut at a quote, and of its ParseUint at two signs. Conditions: the library's errors are there; the text is no longer than 4096. -/
import Derived.Test.YthohfegnphocbaaGreatDoorQ03
import Derived.Lib.IndexLaws
import Derived.BigRegion
import Derived.Deep.Quiet
import Derived.Deep.QuietTactic
import Derived.Test.YthohfegnphocbaaGreatDoorQ01
import Derived.StillTailTactics
import Derived.Test.YthohfegnphocbaaGreatDoorQ02
import Derived.Lib.Strings
namespace Go.Proofs.YthohfegnphocbaaGreatDoor
open Go.RowKit
theorem toQ_some {l : List UInt8} {o : Nat} (h1 : l[o]? = some 39) (h2 : ∀ k, k < o → l[k]? ≠ some 39) : 39 ∈ l ∧ toQ l = l.take o := by
  refine ⟨List.mem_of_getElem? h1, ?_⟩
  induction l generalizing o with
  | nil => simp at h1
  | cons c r ih =>
    cases o with
    | zero =>
      simp at h1
      subst h1
      simp [toQ]
    | succ o =>
      have hc : c ≠ 39 := fun h => h2 0 (by omega) (by simp [h])
      have := ih (o := o) (by simpa using h1) (fun k hk => by have := h2 (k + 1) (by omega); simpa using this)
      unfold toQ at this ⊢
      rw [List.takeWhile_cons_of_pos (by simpa using hc), this]
      rfl
theorem toQ_none {l : List UInt8} (h2 : ∀ k : Nat, l[k]? ≠ some 39) : 39 ∉ l := fun h => by
  obtain ⟨i, hi, e⟩ := List.getElem_of_mem h
  exact h2 i (by rw [List.getElem?_eq_getElem hi, e])
def hasQ (l : List UInt8) : Bool := decide (39 ∈ l)
set_option maxRecDepth 100000 in
set_option maxHeartbeats 1000000 in
theorem cutQ_any (s : ByteArray) (w : World) (hs : s.size ≤ 4096) : Calls Tryz.prog 97 #[.string s, .string ⟨#[39]⟩] w fun e w' => (∃ x y : ByteArray, e = .returned (.tuple #[.string x, .string y, .bool (hasQ s.data.toList)]) ∧ (hasQ s.data.toList = true → x.data.toList = toQ s.data.toList)) ∧ Below w.heap.size w w' := by
  have hi := Tryz.stringslite_Index_one s 39 w
  obtain ⟨q, hq⟩ : ∃ q, q = hasQ s.data.toList := ⟨_, rfl⟩
  have HC : Calls Tryz.prog 134 #[.string s, .string ⟨#[39]⟩] w fun e w' => (∃ x y : ByteArray, e = .returned (.tuple #[.string x, .string y, .bool (hasQ s.data.toList)]) ∧ (hasQ s.data.toList = true → x.data.toList = toQ s.data.toList)) ∧ Below w.heap.size w w' := by
    by_cases hz : Lib.indexByte s.data.toList 39 = -1
    · have h2 := toQ_none (Lib.indexByte_none hz)
      rw [hz] at hi
      have h5 : hasQ s.data.toList = false := decide_eq_false h2
      rw [h5]
      clear h2 hz h5
      go_enter Tryz.func134, Tryz.ntmps134
      go_wp2_with (go_at_call 161; refine hi.mono ?_; rintro e w' ⟨rfl, rfl⟩)
      go_ret3
      exact ⟨⟨_, _, rfl, fun h => by cases h⟩, Below.refl _ _⟩
    · obtain ⟨o, ho⟩ : ∃ o : Nat, Lib.indexByte s.data.toList 39 = o := ⟨(Lib.indexByte s.data.toList 39).toNat, by have := Lib.indexByte_ge s.data.toList 39; omega⟩
      obtain ⟨h1, h2⟩ := Lib.indexByte_some ho
      obtain ⟨h3, h4⟩ := toQ_some h1 h2
      have hol : o < s.size := by rw [← size_list]; exact (List.getElem?_eq_some_iff.1 h1).1
      rw [ho] at hi
      have h5 : hasQ s.data.toList = true := decide_eq_true h3
      rw [h5]
      have H4 : Hid ((s.extract 0 o).data.toList = toQ s.data.toList) := by show _ = _; rw [h4, ext_begin]
      clear h1 h2 h3 h4 hz ho h5
      go_enter Tryz.func134, Tryz.ntmps134
      go_wp2_with (go_at_call 161; refine hi.mono ?_; rintro e w' ⟨rfl, rfl⟩)
      go_region
      go_wp2_with fail
      go_ret3
      exact ⟨⟨_, _, rfl, fun _ => H4.out⟩, (Below.refl _ _).drew⟩
  rw [← hq] at HC ⊢
  clear hq hi
  go_enter Tryz.func97, Tryz.ntmps97
  go_wp2_with (go_at_call 134; refine HC.mono ?_; rintro e w' ⟨⟨x, y, rfl, hx⟩, hb⟩)
  go_ret3
  exact ⟨⟨_, _, rfl, hx⟩, hb⟩
theorem parse16 (t : ByteArray) (c d : UInt8) (ht : t.data.toList = [c, d]) (w : World) (hE : Env w) :
    Calls Tryz.prog 98 #[.string t, .int .i64 16, .int .i64 8] w fun e w' => (∃ x y, e = .returned (.tuple #[.int .u64 x, y]) ∧ match hx c d 2 with
      | some v => x = v ∧ y = .nilIface
      | none => ∃ N, y = .iface 161 (.pointer (some ⟨N, 0, none⟩))) ∧ Below w.heap.size w w' := by
  have hsz : t.size = 2 := by rw [← size_list, ht]; rfl
  have hp := hex_parse t c d ht w
  have hbb := bytes_below w t
  have hE2 := hE.later hbb
  generalize Lib.bytesWorld w 5 t = W1 at *
  obtain ⟨ev, hv, hev⟩ := hE2.syn
  cases hh : hx c d 2 with
  | some v =>
    rw [hh] at hp
    simp only [hexOut] at hp
    clear hE hE2 hv hev hh
    go_enter Tryz.func98, Tryz.ntmps98
    go_wp2_with (go_at_call 135; refine hp.mono ?_; rintro e w' ⟨rfl, rfl⟩)
    go_ret2
    exact ⟨⟨_, _, rfl, rfl, rfl⟩, hbb⟩
  | none =>
    rw [hh] at hp
    simp only [hexOut] at hp
    have HT := Lib.hid (fun fn base b => AnyPu.strconv_toError_syntax { Tryz.laysPu14 with } fn t base b ev W1 (by omega) hv hev)
    clear hE hE2 hv hev hh
    go_enter Tryz.func98, Tryz.ntmps98
    go_wp2_with (go_at_call 135; refine hp.mono ?_; rintro e w' ⟨rfl, rfl⟩)
    refine (HT.out _ _ _).mono ?_
    rintro e w2 ⟨N, rfl, -, -, b2⟩
    go_wp2_with fail
    go_ret2
    exact ⟨⟨_, _, rfl, N, rfl⟩, bthen hbb b2⟩
end Go.Proofs.YthohfegnphocbaaGreatDoor
namespace Go.Proofs.YthohfegnphocbaaGreatDoor
open Go.RowKit
structure Wrote (w : World) (B : Nat) (v v' : Value) (l' : List UInt8) (w' : World) : Prop where
  own : Own w' B v' l'
  grown : w.grownBy w' v.ownBlock
  far : v'.ownBlock = v.ownBlock ∨ ∃ g, v'.ownBlock = some g ∧ w.heap.size ≤ g
theorem Wrote.refl {w : World} {B : Nat} {v : Value} {l : List UInt8} (h : Own w B v l) : Wrote w B v v l w := ⟨h, ⟨rfl, rfl, rfl, Nat.le_refl _, fun _ _ _ => rfl⟩, Or.inl rfl⟩
theorem Wrote.size {w w' : World} {B : Nat} {v v' : Value} {l' : List UInt8} (h : Wrote w B v v' l' w') : w.heap.size ≤ w'.heap.size := h.grown.size
theorem Wrote.trans {w w1 w2 : World} {B : Nat} {v v1 v2 : Value} {l1 l2 : List UInt8} (h : Wrote w B v v1 l1 w1) (k : Wrote w1 B v1 v2 l2 w2) : Wrote w B v v2 l2 w2 := by
  refine ⟨k.own, ⟨k.grown.os.trans h.grown.os, k.grown.tape.trans h.grown.tape, k.grown.output.trans h.grown.output, Nat.le_trans h.size k.size, fun j hj hne => ?_⟩, ?_⟩
  · refine (k.grown.block j (Nat.lt_of_lt_of_le hj h.size) ?_).trans (h.grown.block j hj hne)
    rcases h.far with e | ⟨g, e, hg⟩
    · rwa [e]
    · rw [e]
      intro e2
      have := Option.some.inj e2
      omega
  · rcases k.far with e | ⟨g, e, hg⟩
    · rw [e]
      exact h.far
    · exact Or.inr ⟨g, e, Nat.le_trans h.size hg⟩
theorem Wrote.call {w w1 w2 : World} {B : Nat} {v v1 : Value} {l1 : List UInt8} (h : Wrote w B v v1 l1 w1) (hb : Below w1.heap.size w1 w2) : Wrote w B v v1 l1 w2 :=
  h.trans ⟨own_below h.own hb, ⟨hb.os, hb.tape, hb.output, hb.size, fun k hk _ => hb.block k hk⟩, Or.inl rfl⟩
theorem Wrote.alloc {w w1 : World} {B : Nat} {v v1 : Value} {l1 : List UInt8} (h : Wrote w B v v1 l1 w1) (o : Obj) : Wrote w B v v1 l1 (w1.alloc o) := h.call ((Below.refl _ _).alloc (Nat.le_refl _) o)
theorem Wrote.drew {w w1 : World} {B : Nat} {v v1 : Value} {l1 : List UInt8} (h : Wrote w B v v1 l1 w1) : Wrote w B v v1 l1 w1.drew := h.call ((Below.refl _ _).drew)
theorem Wrote.below {w w' : World} {B : Nat} {v v' : Value} {l l' : List UInt8} (h : Wrote w B v v' l' w') (h0 : Own w B v l) (hB : B ≤ w.heap.size) : Below B w w' :=
  (Below.refl B w).grown h.grown hB (fun k hk => (h0.lt k hk).1)
theorem Wrote.belowNil {w w' : World} {B : Nat} {v' : Value} {l' : List UInt8} (h : Wrote w B (.slice none 0 0) v' l' w') : Below w.heap.size w w' :=
  (Below.refl _ w).grown h.grown (Nat.le_refl _) (fun k hk => by simp [Value.ownBlock] at hk)
theorem Wrote.block {w w' : World} {B b : Nat} {v v' : Value} {l' : List UInt8} (h : Wrote w B v v' l' w') (hb : b < w.heap.size) (hne : v.ownBlock ≠ some b) : w'.heap[b]? = w.heap[b]? :=
  h.grown.block b hb (fun e => hne e.symm)
theorem Wrote.app {w w1 : World} {B : Nat} {v v1 : Value} {l1 : List UInt8} (h : Wrote w B v v1 l1 w1) (m : List UInt8) (A : Option Addr) (c : Nat) (hr : BytesAt w1 w1.heap.size A m) (hm : l1.length + m.length ≤ 100000000) (hB : B ≤ w.heap.size) :
    ∃ v' w', (Builtin.append_ #[67, 67] 67 #[v1, .slice A m.length c]).run Tryz.prog w1 = .ok v' w' ∧ Wrote w B v v' (l1 ++ m) w' := by
  obtain ⟨v', w', h1, h2, h3, h4⟩ := own_app h.own m A c hr hm (Nat.le_trans hB h.size)
  refine ⟨v', w', h1, h.trans ⟨h2, h3, ?_⟩⟩
  rcases h4 with e | e
  · exact Or.inl e
  · exact Or.inr ⟨_, e, Nat.le_refl _⟩
theorem Wrote.str {w w1 : World} {B : Nat} {v v1 : Value} {l1 : List UInt8} (h : Wrote w B v v1 l1 w1) (s : ByteArray) (hm : l1.length + s.size ≤ 100000000) (hB : B ≤ w.heap.size) :
    ∃ v' w', (Builtin.append_ #[67, 9] 67 #[v1, .string s]).run Tryz.prog w1 = .ok v' w' ∧ Wrote w B v v' (l1 ++ s.data.toList) w' := by
  obtain ⟨v', w', h1, h2, h3, h4⟩ := own_str h.own s hm (Nat.le_trans hB h.size)
  refine ⟨v', w', h1, h.trans ⟨h2, h3, ?_⟩⟩
  rcases h4 with e | e
  · exact Or.inl e
  · exact Or.inr ⟨_, e, Nat.le_refl _⟩
theorem laid_at (w : World) (l : List UInt8) (cs : Array Value) (T : TypeId) (hcs : cs = (u8s l).toArray) : BytesAt (w.alloc (.cells cs T)) (w.alloc (.cells cs T)).heap.size (some ⟨w.heap.size, 0, none⟩) l := fun _ => by
  refine ⟨w.heap.size, 0, rfl, by simp, fun j hj => ?_⟩
  have hn : (w.alloc (.cells cs T)).heap[w.heap.size]? = some (.cells cs T (0, 0)) := heap_alloc_new w _
  rw [Lib.cell_of_heap hn, hcs]
  simp [u8s, hj]
theorem Wrote.one {w w1 : World} {B : Nat} {v v1 : Value} {l1 : List UInt8} (h : Wrote w B v v1 l1 w1) (x : UInt8) (hm : l1.length ≤ 50000000) (hB : B ≤ w.heap.size) :
    ∃ v' w', (Builtin.append_ #[67, 67] 67 #[v1, .slice (some ⟨w1.heap.size, 0, none⟩) 1 1]).run Tryz.prog (w1.alloc (.cells #[.int .u8 x.toNat] 5)) = .ok v' w' ∧ Wrote w B v v' (l1 ++ [x]) w' :=
  (h.alloc (.cells #[.int .u8 x.toNat] 5)).app [x] _ 1 (laid_at w1 [x] _ 5 rfl) (by simp; omega) hB
theorem Wrote.two {w w1 : World} {B : Nat} {v v1 : Value} {l1 : List UInt8} (h : Wrote w B v v1 l1 w1) (x y : UInt8) (hm : l1.length ≤ 50000000) (hB : B ≤ w.heap.size) :
    ∃ v' w', (Builtin.append_ #[67, 67] 67 #[v1, .slice (some ⟨w1.heap.size, 0, none⟩) 2 2]).run Tryz.prog (w1.alloc (.cells #[.int .u8 x.toNat, .int .u8 y.toNat] 5)) = .ok v' w' ∧ Wrote w B v v' (l1 ++ [x, y]) w' :=
  (h.alloc (.cells #[.int .u8 x.toNat, .int .u8 y.toNat] 5)).app [x, y] _ 2 (laid_at w1 [x, y] _ 5 rfl) (by simp; omega) hB
end Go.Proofs.YthohfegnphocbaaGreatDoor
namespace Go.Proofs.YthohfegnphocbaaGreatDoor
open Go.RowKit
theorem BytesAt.set {w : World} {B g : Nat} {l : List UInt8} (h : BytesAt w B (some ⟨g, 0, none⟩) l) (k : Nat) (hk : k < l.length) (x : UInt8) : BytesAt (w.setCell ⟨g, k, none⟩ (.int .u8 x.toNat)) B (some ⟨g, 0, none⟩) (l.set k x) := fun _ => by
  obtain ⟨b, off, hA, hlt, hc⟩ := h (by omega)
  simp at hA
  obtain ⟨rfl, rfl⟩ := hA
  refine ⟨g, 0, rfl, hlt, fun j hj => ?_⟩
  rw [List.length_set] at hj
  have hj' := hc j hj
  rw [Nat.zero_add] at hj' ⊢
  by_cases e : j = k
  · subst e
    rw [World.cell?_setCell_same _ _ _ hj', List.getElem_set_self]
  · rw [World.cell?_setCell_other _ _ _ _ (by simp <;> omega), hj', List.getElem_set_ne (by omega)]
theorem set_done (done : List UInt8) (n : Nat) (x : UInt8) : (done ++ List.replicate (n + 1) 0).set done.length x = (done ++ [x]) ++ List.replicate n 0 := by
  rw [List.set_append_right _ _ (Nat.le_refl _)]
  simp [List.replicate_succ]
theorem frozen_later {w w' : World} {g j : Nat} (hb : Below w.heap.size w w') (hg : g < w.heap.size) (h : w.frozen? ⟨g, j, none⟩ = false) : w'.frozen? ⟨g, j, none⟩ = false := by
  unfold World.frozen? at h ⊢
  rw [hb.block g hg]
  exact h
theorem TBox.set {w : World} {b g k : Nat} {t : T} (h : TBox w b t) (hg : b < g) (x : Value) : TBox (w.setCell ⟨g, k, none⟩ x) b t := by
  have hb : Below g w (w.setCell ⟨g, k, none⟩ x) := (Below.refl g w).setCell (Nat.le_refl _) _
  exact (hb.block b hg).trans h
theorem made_u8 (n : Nat) : madeCells #[.int .u8 0] n = (u8s (List.replicate n 0)).toArray := by
  apply Array.ext'
  simp only [u8s, List.map_replicate]
  apply List.ext_getElem?
  intro j
  by_cases hj : j < n
  · simp [madeCells, hj, Nat.mod_one]
  · simp [madeCells, hj]
theorem make_bytes (n : Nat) (h : n ≤ 5000) (w : World) : (Instr.makeSlice 67 (.int .i64 (n : Int)) (.int .i64 (n : Int))).run Tryz.prog w = .ok (.slice (some ⟨w.heap.size, 0, none⟩) n n) (w.alloc (.cells (u8s (List.replicate n 0)).toArray 5)) := by
  obtain ⟨i0, hi, hz0, hz1, hz2⟩ := info_parts info5
  have := run_make (P := Tryz.prog) w 67 5 i0 _ Tryz.underlying67 hi hz0 .i64 .i64 n n (by omega) (by omega) (by rw [hz2]; omega) (by omega)
  rw [this, Int.toNat_natCast, hz1, Nat.mul_one]
  show Result.ok _ (w.alloc (.cells (madeCells #[.int .u8 0] n) 5)) = _
  rw [made_u8]
def HexAt (l done : List UInt8) (k : Nat) : Prop := hexP l = (hexP (l.drop (2 * k))).map fun p => done ++ p
theorem HexAt.start (l : List UInt8) : HexAt l [] 0 := by
  unfold HexAt
  rw [Nat.mul_zero, List.drop_zero]
  cases hexP l <;> rfl
theorem pair_at {l : List UInt8} {k : Nat} (h : 2 * k + 1 < l.length) : l.drop (2 * k) = l[2 * k] :: l[2 * k + 1] :: l.drop (2 * (k + 1)) := by
  rw [List.drop_eq_getElem_cons (by omega), List.drop_eq_getElem_cons h]
  rfl
theorem hexP_hx (c d : UInt8) (r : List UInt8) : hexP (c :: d :: r) = (hx c d 2).bind fun v => (hexP r).map fun p => UInt8.ofNat v :: p := by
  simp only [hexP, hx]
  cases hexV c with
  | none => rfl
  | some a => cases hexV d <;> rfl
theorem HexAt.next {l done : List UInt8} {k v : Nat} (h : HexAt l done k) (hk : 2 * k + 1 < l.length) (e : hx l[2 * k] l[2 * k + 1] 2 = some v) : HexAt l (done ++ [UInt8.ofNat v]) (k + 1) := by
  unfold HexAt at *
  rw [h, pair_at hk, hexP_hx, e]
  cases hexP (l.drop (2 * (k + 1))) <;> simp
theorem HexAt.bad {l done : List UInt8} {k : Nat} (h : HexAt l done k) (hk : 2 * k + 1 < l.length) (e : hx l[2 * k] l[2 * k + 1] 2 = none) : hexP l = none := by
  unfold HexAt at *
  rw [h, pair_at hk, hexP_hx, e]
  rfl
theorem HexAt.done {l done : List UInt8} {k : Nat} (h : HexAt l done k) (hk : l.length ≤ 2 * k) : hexP l = some done := by
  unfold HexAt at *
  rw [h, List.drop_eq_nil_of_le hk]
  simp [hexP]
theorem hx_byte {c d : UInt8} {v : Nat} (e : hx c d 2 = some v) : v < 256 := by
  simp only [hx, Option.bind_eq_some_iff, Option.map_eq_some_iff] at e
  obtain ⟨h, h1, g, h2, rfl⟩ := e
  have := hexV_lt h1
  have := hexV_lt h2
  omega
def blobO (l : List UInt8) : Option Tk := (blbR (l.drop 2)).map fun p => ⟨4, p.1, 0, p.2 + 2⟩
theorem blobO_some {l bs : List UInt8} (h1 : 39 ∈ l.drop 2) (h2 : (toQ (l.drop 2)).length % 2 = 0) (h3 : hexP (toQ (l.drop 2)) = some bs) : tup (blobO l) = .tuple #[.agg #[.int .i64 4, .string (str bs), .int .i64 0, .int .i64 0], .int .i64 (((toQ (l.drop 2)).length : Int) + 3)] := by
  unfold blobO
  rw [blbR_eq, if_pos ⟨h1, h2⟩, h3]
  rfl
theorem blobO_none {l : List UInt8} (h : ¬ (39 ∈ l.drop 2 ∧ (toQ (l.drop 2)).length % 2 = 0) ∨ hexP (toQ (l.drop 2)) = none) : tup (blobO l) = .tuple #[.agg #[.int .i64 0, .string ⟨#[]⟩, .int .i64 0, .int .i64 0], .int .i64 0] := by
  unfold blobO
  rw [blbR_eq]
  by_cases h1 : 39 ∈ l.drop 2 ∧ (toQ (l.drop 2)).length % 2 = 0
  · rcases h with h | h
    · exact absurd h1 h
    · rw [if_pos h1, h]
      rfl
  · rw [if_neg h1]
    rfl
theorem two_list (x : ByteArray) (k : Nat) (h : 2 * k + 1 < x.data.toList.length) : (x.extract (2 * k) (2 * k + 2)).data.toList = [x.data.toList[2 * k], x.data.toList[2 * k + 1]] := by
  rw [ext_list, pair_at h, show 2 * k + 2 - 2 * k = 2 by omega]
  rfl
set_option maxRecDepth 100000 in
set_option maxHeartbeats 2000000 in
theorem blob_any (s : ByteArray) (w : World) (hE : Env w) (hs : s.size ≤ 4096) (h2 : 2 ≤ s.size) : Calls Tryz.prog 50 #[.string s] w fun e w' => e = .returned (tup (blobO s.data.toList)) ∧ Below w.heap.size w w' := by
  have HC := Lib.hid (fun w => cutQ_any (s.extract 2 s.size) w (by rw [ByteArray.size_extract]; omega))
  rw [ext_end] at HC
  have HS := Lib.hid (fun bs h1 h2 h3 => blobO_some (l := s.data.toList) (bs := bs) h1 h2 h3)
  have HN := Lib.hid (fun h => blobO_none (l := s.data.toList) h)
  have hq : hasQ (s.data.toList.drop 2) = true ↔ 39 ∈ s.data.toList.drop 2 := decide_eq_true_iff
  have hlen : (s.data.toList.drop 2).length ≤ 4096 := by rw [List.length_drop, size_list]; omega
  have htq := tw_le (fun c => c != 39) (s.data.toList.drop 2)
  change (toQ (s.data.toList.drop 2)).length ≤ _ at htq
  have HQ := Lib.hid hq
  clear hq
  have bz := zbox w
  have hb0 := (Below.refl w.heap.size w).alloc (Nat.le_refl _) (.cells #[.int .i64 0, .string ⟨#[]⟩, .int .i64 0, .int .i64 0] 51)
  have hsz : (w.alloc (.cells #[.int .i64 0, .string ⟨#[]⟩, .int .i64 0, .int .i64 0] 51)).heap.size = w.heap.size + 1 := by simp
  generalize tup (blobO s.data.toList) = res at *
  generalize s.data.toList.drop 2 = L at *
  have HE := Lib.hid hE
  clear hE
  go_enter Tryz.func50, Tryz.ntmps50
  go_wp2_with fail
  generalize w.alloc (.cells #[.int .i64 0, .string ⟨#[]⟩, .int .i64 0, .int .i64 0] 51) = W1 at *
  refine (HC.out _).mono ?_
  rintro e w2 ⟨⟨x, y, rfl, hx⟩, b2⟩
  have B2 := bthen hb0 b2
  have bz2 := bz.later b2
  have hE2 := Lib.hid (HE.out.later B2)
  have hz2 : w.heap.size < w2.heap.size := by have := b2.size; omega
  clear bz hb0 hsz b2
  cases hh : hasQ L
  · have HD : Hid (res = _) := HN.out (Or.inl (fun h => by rw [HQ.out.2 h.1] at hh; cases hh))
    obtain ⟨c0, c1, c2, c3⟩ := bz2.zcells
    obtain ⟨f0, f1, f2, f3⟩ := bz2.free
    clear hx hh
    go_wp2_with fail
    exact bodyPost_ret (v := .tuple #[.agg #[.int .i64 0, .string ⟨#[]⟩, .int .i64 0, .int .i64 0], .int .i64 0]) (by simp [results, Tryz.results50, go_sem, c0, c1, c2, c3]) rfl ⟨by rw [HD.out], Below.set4 B2 (Nat.le_refl _) _ _ _ _⟩
  · have hxl := hx hh
    have hm := HQ.out.1 hh
    have hxs : x.size = (toQ L).length := by rw [← size_list, hxl]
    have hxz : x.size ≤ 4096 := by omega
    rcases Nat.mod_two_eq_zero_or_one x.size with he | ho
    · obtain ⟨m, hmm⟩ : ∃ m, x.size = 2 * m := ⟨x.size / 2, by omega⟩
      have HS2 : Hid (∀ bs, hexP (toQ L) = some bs → res = .tuple #[.agg #[.int .i64 4, .string (str bs), .int .i64 0, .int .i64 0], .int .i64 (2 * (m : Int) + 3)]) := fun bs h => by
        rw [HS.out bs hm (by omega) h, ← hxs, hmm]
        rfl
      have HN2 : Hid (hexP (toQ L) = none → res = _) := fun h => HN.out (Or.inr h)
      rw [← hxl] at HS2 HN2
      have e0 : ((x.size : Int).tmod 2 != 0) = false := by
        rw [hmm]
        simp
      have e1 : (x.size : Int).tdiv 2 = m := by
        rw [hmm]
        simp
      have hmk := make_bytes m (by omega) w2
      have hfr : Hid (∀ j, j < m → (w2.alloc (.cells (u8s (List.replicate m 0)).toArray 5)).frozen? ⟨w2.heap.size, j, none⟩ = false) := fun j _ => Lib.frozen_of_heap (heap_alloc_new w2 _) j
      have hby : Hid (BytesAt (w2.alloc (.cells (u8s (List.replicate m 0)).toArray 5)) (w2.alloc (.cells (u8s (List.replicate m 0)).toArray 5)).heap.size (some ⟨w2.heap.size, 0, none⟩) (List.replicate m 0)) := laid_at w2 _ _ _ rfl
      have hgz : w2.heap.size < (w2.alloc (.cells (u8s (List.replicate m 0)).toArray 5)).heap.size := by simp
      have hb3 := (Below.refl w2.heap.size w2).alloc (Nat.le_refl _) (.cells (u8s (List.replicate m 0)).toArray 5)
      have B3 := Lib.hid (bthen B2 hb3)
      have bz3 := Lib.hid (bz2.later hb3)
      clear hE2 bz2 B2 hb3 HS HN HC hxl hm hxs hx hh HQ he
      go_wp2_with fail
      generalize w2.alloc (.cells (u8s (List.replicate m 0)).toArray 5) = W3 at *
      generalize w2.heap.size = g at *
      go_loopw [33] (fun i wr => ∃ (k : Nat) (done : List UInt8), k ≤ m ∧ i = .int .i64 k ∧ done.length = k ∧ g < wr.heap.size ∧ Hid (HexAt x.data.toList done k) ∧ Hid (Below w.heap.size w wr) ∧ Hid (BytesAt wr wr.heap.size (some ⟨g, 0, none⟩) (done ++ List.replicate (m - k) 0)) ∧ Hid (∀ j, j < m → wr.frozen? ⟨g, j, none⟩ = false) ∧ Hid (TBox wr w.heap.size zT)) (fun i _ => m - (intOf i).toNat)
      case atStart => exact ⟨0, [], Nat.zero_le _, rfl, rfl, hgz, HexAt.start _, B3.out, hby.out, hfr.out, bz3.out⟩
      case round =>
        obtain ⟨k, done, hk, rfl, hdl, hgw, HA, HB, HY, HF, HZ⟩ := hrel
        clear hgz hby hfr bz3 B3
        by_cases hlt : k < m
        · have hkl : 2 * k + 1 < x.data.toList.length := by rw [size_list]; omega
          have HP := Lib.hid (fun w hE => parse16 (x.extract (2 * k) (2 * k + 2)) _ _ (two_list x k hkl) w hE)
          have HX1 := Lib.hid (fun v e => HA.out.next (v := v) hkl e)
          have HX2 := Lib.hid (fun e => HA.out.bad hkl e)
          generalize x.data.toList[2 * k] = c at *
          generalize x.data.toList[2 * k + 1] = d at *
          have z1 : IntKind.i64.wrap (2 * (k : Int)) = ((2 * k : Nat) : Int) := by rw [IntWalk.i64_in _ (by omega)]; rfl
          clear HA
          have HY0 : Hid ((done ++ List.replicate (m - k) 0)[k]? = some 0) := by
            show _ = _
            rw [List.getElem?_append_right (by omega), hdl, Nat.sub_self, List.getElem?_replicate]
            simp; omega
          have HL : Hid ((done ++ List.replicate (m - k) 0).length = m) := by
            show _ = _
            rw [List.length_append, List.length_replicate]; omega
          go_wp2_with fail
          refine (HP.out wr (HE.out.later HB.out)).mono ?_
          rintro e w5 ⟨⟨u, er, rfl, hu⟩, b5⟩
          have bz5 := HZ.out.later b5
          have B5 := Lib.hid (bthen HB.out b5)
          cases hh : hx c d 2 with
          | none =>
            rw [hh] at hu
            obtain ⟨N, rfl⟩ := hu
            have HD := Lib.hid (HN2.out (HX2.out hh))
            obtain ⟨c0, c1, c2, c3⟩ := bz5.zcells
            obtain ⟨f0, f1, f2, f3⟩ := bz5.free
            clear hh bz5 hdl
            go_wp2_with fail
            exact bodyPost_ret (v := .tuple #[.agg #[.int .i64 0, .string ⟨#[]⟩, .int .i64 0, .int .i64 0], .int .i64 0]) (by simp [results, Tryz.results50, go_sem, c0, c1, c2, c3]) rfl ⟨by rw [HD.out], Below.set4 B5.out (Nat.le_refl _) _ _ _ _⟩
          | some v =>
            rw [hh] at hu
            obtain ⟨rfl, rfl⟩ := hu
            have hv := hx_byte hh
            have HX := Lib.hid (HX1.out v hh)
            have hY5 := HY.out.later b5
            have hg5 : g < w5.heap.size := Nat.lt_of_lt_of_le hgw b5.size
            have f5 := frozen_later b5 hgw (HF.out k hlt)
            have ck : w5.cell? ⟨g, k, none⟩ = some (.int .u8 0) := by
              obtain ⟨b', off', hA, -, hc⟩ := hY5 (by rw [HL.out]; omega)
              simp at hA
              obtain ⟨rfl, rfl⟩ := hA
              have := hc k (by rw [HL.out]; exact hlt)
              rw [Nat.zero_add] at this
              rw [this]
              have h0 := HY0.out
              rw [List.getElem?_eq_getElem (by rw [HL.out]; exact hlt)] at h0
              rw [Option.some.inj h0]
              rfl
            have hw : IntKind.u8.wrap (v : Int) = v := by rw [IntKind.wrap_u8]; omega
            have HY6 : Hid (BytesAt (w5.setCell ⟨g, k, none⟩ (.int .u8 v)) w5.heap.size (some ⟨g, 0, none⟩) ((done ++ [UInt8.ofNat v]) ++ List.replicate (m - (k + 1)) 0)) := by
              have h := hY5.set k (by rw [HL.out]; exact hlt) (UInt8.ofNat v)
              rw [show m - k = m - (k + 1) + 1 by omega, ← hdl, set_done, hdl] at h
              rw [show ((UInt8.ofNat v).toNat : Int) = v by simp; omega] at h
              exact h
            have HF6 : Hid (∀ j, j < m → (w5.setCell ⟨g, k, none⟩ (.int .u8 v)).frozen? ⟨g, j, none⟩ = false) := fun j hj => by
              rw [World.frozen?_setCell]
              exact frozen_later b5 hgw (HF.out j hj)
            have HZ6 := Lib.hid (bz5.set hz2 (k := k) (.int .u8 v))
            have HB6 := Lib.hid (B5.out.setCell (Nat.le_of_lt hz2) (.int .u8 v) (p := ⟨g, k, none⟩))
            have HDL := Lib.hid hdl
            clear hh bz5 hY5 HY HF HZ HB hdl HY0
            go_wp2_with fail
            go_roundw
            case measure => simp [intOf]; omega
            case rel => exact ⟨k + 1, done ++ [UInt8.ofNat v], by omega, by go_num, by rw [List.length_append, HDL.out]; rfl, by simpa using hg5, HX.out, HB6.out, (by show BytesAt _ _ _ _; simpa using HY6.out), HF6.out, HZ6.out⟩
        · have hkm : k = m := by omega
          subst hkm
          have hY := HY.out
          rw [Nat.sub_self, List.replicate_zero, List.append_nil] at hY
          have hcv := conv_at (c := k) hY
          rw [hdl] at hcv
          have HD := Lib.hid (HS2.out done (HA.out.done (by rw [size_list]; omega)))
          have bz5 := HZ.out
          have B5 := HB.out
          obtain ⟨c0, c1, c2, c3⟩ := bz5.zcells
          obtain ⟨f0, f1, f2, f3⟩ := bz5.free
          clear hY hdl bz5 HY HF HA HZ
          go_wp2_with fail
          exact bodyPost_ret (v := .tuple #[.agg #[.int .i64 4, .string (str done), .int .i64 0, .int .i64 0], .int .i64 (2 * (k : Int) + 3)]) (by simp [results, Tryz.results50, go_sem, c0, c1, c2, c3]) rfl ⟨by rw [HD.out], Below.set4 B5 (Nat.le_refl _) _ _ _ _⟩
    · have HD : Hid (res = _) := HN.out (Or.inl (fun h => by omega))
      obtain ⟨c0, c1, c2, c3⟩ := bz2.zcells
      obtain ⟨f0, f1, f2, f3⟩ := bz2.free
      have e0 : ((x.size : Int).tmod 2 != 0) = true := by
        rw [Int.tmod_eq_emod_of_nonneg (by omega), bne_iff_ne]
        omega
      clear hx hh
      go_wp2_with fail
      exact bodyPost_ret (v := .tuple #[.agg #[.int .i64 0, .string ⟨#[]⟩, .int .i64 0, .int .i64 0], .int .i64 0]) (by simp [results, Tryz.results50, go_sem, c0, c1, c2, c3]) rfl ⟨by rw [HD.out], Below.set4 B2 (Nat.le_refl _) _ _ _ _⟩
end Go.Proofs.YthohfegnphocbaaGreatDoor
namespace Go.Proofs.YthohfegnphocbaaGreatDoor
open Go.RowKit
def t4 (t : T) : List Value := [.int .i64 t.k, .string (str t.s), .int .i64 t.i, .int .i64 t.p]
def flatT (ts : List T) : List Value := ts.flatMap t4
theorem flatT_len (ts : List T) : (flatT ts).length = ts.length * 4 := by
  induction ts with
  | nil => rfl
  | cons a l ih => show (t4 a ++ flatT l).length = _; rw [List.length_append, ih]; simp [t4]; omega
theorem flatT_one (ts : List T) : ∀ u ∈ flatT ts, u.oneCell' = true := by
  intro u hu
  obtain ⟨v, _, hv⟩ := List.mem_flatMap.1 hu
  simp [t4] at hv
  rcases hv with rfl | rfl | rfl | rfl <;> rfl
theorem flatT_get (ts : List T) (j t : Nat) (hj : j < ts.length) (ht : t < 4) : (flatT ts)[j * 4 + t]? = (t4 ts[j])[t]? := by
  induction ts generalizing j with
  | nil => simp at hj
  | cons a l ih =>
    show (t4 a ++ flatT l)[j * 4 + t]? = _
    cases j with
    | zero =>
      rw [List.getElem?_append_left (by simp [t4]; omega)]
      simp
    | succ j =>
      rw [List.getElem?_append_right (by simp [t4]; omega)]
      rw [show (j + 1) * 4 + t - (t4 a).length = j * 4 + t by simp [t4]; omega, ih j (by simpa using hj)]
      simp
theorem flatT_append (xs ys : List T) : flatT (xs ++ ys) = flatT xs ++ flatT ys := by unfold flatT; rw [List.flatMap_append]
def TAt (w : World) (B : Nat) (A : Option Addr) (ts : List T) : Prop := 0 < ts.length → ∃ b off, A = some ⟨b, off, none⟩ ∧ b < B ∧ ∀ j (h : j < ts.length), w.cell? ⟨b, off + j * 4, none⟩ = some (.int .i64 ts[j].k) ∧ w.cell? ⟨b, off + j * 4 + 1, none⟩ = some (.string (str ts[j].s)) ∧ w.cell? ⟨b, off + j * 4 + 2, none⟩ = some (.int .i64 ts[j].i) ∧ w.cell? ⟨b, off + j * 4 + 3, none⟩ = some (.int .i64 ts[j].p)
theorem TAt.below {w w' : World} {B : Nat} {A : Option Addr} {ts : List T} (h : TAt w B A ts) (hb : Below B w w') : TAt w' B A ts := fun h0 => by
  obtain ⟨b, off, hA, hlt, hc⟩ := h h0
  refine ⟨b, off, hA, hlt, fun j hj => ?_⟩
  obtain ⟨c0, c1, c2, c3⟩ := hc j hj
  exact ⟨(hb.cell (p := ⟨b, _, none⟩) hlt).trans c0, (hb.cell (p := ⟨b, _, none⟩) hlt).trans c1, (hb.cell (p := ⟨b, _, none⟩) hlt).trans c2, (hb.cell (p := ⟨b, _, none⟩) hlt).trans c3⟩
theorem TAt.mono {w : World} {B B' : Nat} {A : Option Addr} {ts : List T} (h : TAt w B A ts) (hB : B ≤ B') : TAt w B' A ts := fun h0 => by
  obtain ⟨b, off, hA, hlt, hc⟩ := h h0
  exact ⟨b, off, hA, by omega, hc⟩
theorem TAt.later {w w' : World} {A : Option Addr} {ts : List T} (h : TAt w w.heap.size A ts) (hb : Below w.heap.size w w') : TAt w' w'.heap.size A ts := (h.below hb).mono hb.size
theorem TAt.nil (w : World) (B : Nat) (A : Option Addr) : TAt w B A [] := fun h => by simp at h
theorem TAt.flat {w : World} {B : Nat} {b off : Nat} {ts : List T} (h : TAt w B (some ⟨b, off, none⟩) ts) : ∀ j u, (flatT ts)[j]? = some u → w.cell? ((⟨b, off, none⟩ : Addr).add j) = some u := by
  intro j u hu
  have hl : j < ts.length * 4 := by
    have := (List.getElem?_eq_some_iff.1 hu).1
    rwa [flatT_len] at this
  obtain ⟨b', off', hA, hlt, hc⟩ := h (by omega)
  simp at hA
  obtain ⟨rfl, rfl⟩ := hA
  have hq : j / 4 < ts.length := by omega
  obtain ⟨h0, h1, h2, h3⟩ := hc (j / 4) hq
  rw [show j = j / 4 * 4 + j % 4 by omega, flatT_get ts (j / 4) (j % 4) hq (by omega)] at hu
  rw [WideShapes.add_plain]
  have h4 : j % 4 = 0 ∨ j % 4 = 1 ∨ j % 4 = 2 ∨ j % 4 = 3 := by omega
  rcases h4 with h4 | h4 | h4 | h4
  · rw [h4] at hu
    simp [t4] at hu
    rw [← hu, show off + j = off + j / 4 * 4 by omega]; exact h0
  · rw [h4] at hu
    simp [t4] at hu
    rw [← hu, show off + j = off + j / 4 * 4 + 1 by omega]; exact h1
  · rw [h4] at hu
    simp [t4] at hu
    rw [← hu, show off + j = off + j / 4 * 4 + 2 by omega]; exact h2
  · rw [h4] at hu
    simp [t4] at hu
    rw [← hu, show off + j = off + j / 4 * 4 + 3 by omega]; exact h3
theorem TAt.of_flat {w : World} {g : Nat} {ts : List T} (h : ∀ j u, (flatT ts)[j]? = some u → w.cell? ((⟨g, 0, none⟩ : Addr).add j) = some u) (hg : g < w.heap.size) : TAt w w.heap.size (some ⟨g, 0, none⟩) ts := fun _ => by
  refine ⟨g, 0, rfl, hg, fun j hj => ?_⟩
  have e0 := h (j * 4 + 0) _ (flatT_get ts j 0 hj (by omega))
  have e1 := h (j * 4 + 1) _ (flatT_get ts j 1 hj (by omega))
  have e2 := h (j * 4 + 2) _ (flatT_get ts j 2 hj (by omega))
  have e3 := h (j * 4 + 3) _ (flatT_get ts j 3 hj (by omega))
  rw [WideShapes.add_plain] at e0 e1 e2 e3
  exact ⟨e0, e1, e2, e3⟩
theorem info30 : (Tryz.prog.info? 51).map (fun i => (i.zero, i.size, i.bytes)) = some (some (.agg #[.int .i64 0, .string ⟨#[]⟩, .int .i64 0, .int .i64 0]), 4, 40) := by kernel_rfl
def OwnT (w : World) (B : Nat) (v : Value) (ts : List T) : Prop := w.ownsRow B 51 4 v ts.length (flatT ts)
theorem OwnT.nil (w : World) (B : Nat) : OwnT w B (.slice none 0 0) [] := World.ownsRow_nil w B 51 4
theorem OwnT.row {w : World} {B : Nat} {v : Value} {ts : List T} (h : OwnT w B v ts) : ∃ A c, v = .slice A ts.length c ∧ ts.length ≤ c ∧ c ≤ maxLen ∧ TAt w w.heap.size A ts := by
  rcases h.2 with ⟨hv, h0⟩ | ⟨g, cap, cur, hv, _, hg, hn, hm, _⟩
  · exact ⟨none, 0, by rw [hv, h0], by omega, by decide, fun h => by omega⟩
  · exact ⟨_, cap, hv, hn, hm, TAt.of_flat (h.cells (g := g) (by rw [hv]; rfl)) (Array.getElem?_eq_some_iff.1 hg).1⟩
theorem OwnT.later {w w' : World} {B : Nat} {v : Value} {ts : List T} (h : OwnT w B v ts) (hb : Below w.heap.size w w') : OwnT w' B v ts :=
  h.kept (row := none) ⟨hb.os, hb.tape, hb.output, hb.size, fun k hk _ => hb.block k hk⟩ (by cases v.ownBlock <;> simp)
theorem ownT_app {w0 w : World} {B : Nat} {v : Value} {ts : List T} (hown : OwnT w B v ts) (t : T) (hm : ts.length ≤ 1000000) (hB : B ≤ w.heap.size) (hb : Below B w0 w) (H : Nat) (hH : w.heap.size = H) :
    ∃ v' w', (Builtin.append_ #[33, 33] 33 #[v, .slice (some ⟨H, 0, none⟩) 1 1]).run Tryz.prog (w.alloc (.cells #[.int .i64 t.k, .string (str t.s), .int .i64 t.i, .int .i64 t.p] 51)) = .ok v' w' ∧ OwnT w' B v' (ts ++ [t]) ∧ Below B w0 w' := by
  subst hH
  obtain ⟨i0, hi, hz0, hz1, hz2⟩ := info_parts info30
  have ho := (TBox.made w t).cells
  have hbox := TBox.made w t
  have ho2 := hown.later ((Below.refl w.heap.size w).alloc (Nat.le_refl _) (.cells #[.int .i64 t.k, .string (str t.s), .int .i64 t.i, .int .i64 t.p] 51))
  have hb2 := hb.alloc hB (.cells #[.int .i64 t.k, .string (str t.s), .int .i64 t.i, .int .i64 t.p] 51)
  have hz : w.heap.size < (w.alloc (.cells #[.int .i64 t.k, .string (str t.s), .int .i64 t.i, .int .i64 t.p] 51)).heap.size := by simp
  generalize w.alloc (.cells #[.int .i64 t.k, .string (str t.s), .int .i64 t.i, .int .i64 t.p] 51) = W at *
  have hat : TAt W W.heap.size (some ⟨w.heap.size, 0, none⟩) [t] := fun _ => ⟨_, 0, rfl, hz, fun j hj => by
    have : j = 0 := by simpa using hj
    subst this
    exact ho⟩
  obtain ⟨v', w', h1, h2, h3, -, h5⟩ := run_append_own_at (P := Tryz.prog) W B 33 33 51 i0 _ 4 40 Tryz.underlying33 hi hz0 hz1 hz2 rfl (by decide) v ts.length (flatT ts) ho2 ⟨w.heap.size, 0, none⟩ 1 1 (flatT [t]) (by rw [flatT_len]; simp) hat.flat (flatT_one [t]) (by unfold maxLen; omega) (by omega) (by omega)
  refine ⟨v', w', h1, ?_, hb2.grown h3 (by omega) (fun k hk => (ho2.lt k hk).1)⟩
  unfold OwnT
  rw [List.length_append, flatT_append]
  exact h2
end Go.Proofs.YthohfegnphocbaaGreatDoor
namespace Go.Proofs.YthohfegnphocbaaGreatDoor
open Go.RowKit
def signO (l : List UInt8) : Option Tk := (sgn l).map fun w => ⟨5, if w = [33, 61] then [60, 62] else w, 0, w.length⟩
def NoneYet (l : List UInt8) (j : Nat) : Prop := ∀ i (h : i < signs.length), i < j → signs[i].isPrefixOf l = false
theorem NoneYet.found {l : List UInt8} {j : Nat} (h : NoneYet l j) (hj : j < signs.length) (hp : signs[j].isPrefixOf l = true) : sgn l = some signs[j] := by
  unfold sgn
  rw [List.find?_eq_some_iff_getElem]
  exact ⟨hp, j, hj, rfl, fun i hi => by simpa using h i (by omega) hi⟩
theorem NoneYet.next {l : List UInt8} {j : Nat} (h : NoneYet l j) (hj : j < signs.length) (hp : signs[j].isPrefixOf l = false) : NoneYet l (j + 1) := fun i hi hlt => by
  rcases Nat.lt_or_ge i j with h1 | h1
  · exact h i hi h1
  · have : i = j := by omega
    subst this
    exact hp
theorem NoneYet.none {l : List UInt8} (h : NoneYet l 18) : sgn l = none := by
  unfold sgn
  rw [List.find?_eq_none]
  intro w hw
  obtain ⟨i, hi, rfl⟩ := List.getElem_of_mem hw
  have := h i hi (by have : signs.length = 18 := rfl; omega)
  simp [this]
theorem index_sig0 (w : World) : (Instr.index 120 (.agg sigV) (.int .i64 0)).run Tryz.prog w = .ok (.string ⟨#[60, 62]⟩) w := by kernel_rfl
theorem index_sig1 (w : World) : (Instr.index 120 (.agg sigV) (.int .i64 1)).run Tryz.prog w = .ok (.string ⟨#[60, 61]⟩) w := by kernel_rfl
theorem index_sig2 (w : World) : (Instr.index 120 (.agg sigV) (.int .i64 2)).run Tryz.prog w = .ok (.string ⟨#[62, 61]⟩) w := by kernel_rfl
theorem index_sig3 (w : World) : (Instr.index 120 (.agg sigV) (.int .i64 3)).run Tryz.prog w = .ok (.string ⟨#[33, 61]⟩) w := by kernel_rfl
theorem index_sig4 (w : World) : (Instr.index 120 (.agg sigV) (.int .i64 4)).run Tryz.prog w = .ok (.string ⟨#[124, 124]⟩) w := by kernel_rfl
theorem index_sig5 (w : World) : (Instr.index 120 (.agg sigV) (.int .i64 5)).run Tryz.prog w = .ok (.string ⟨#[61]⟩) w := by kernel_rfl
theorem index_sig6 (w : World) : (Instr.index 120 (.agg sigV) (.int .i64 6)).run Tryz.prog w = .ok (.string ⟨#[60]⟩) w := by kernel_rfl
theorem index_sig7 (w : World) : (Instr.index 120 (.agg sigV) (.int .i64 7)).run Tryz.prog w = .ok (.string ⟨#[62]⟩) w := by kernel_rfl
theorem index_sig8 (w : World) : (Instr.index 120 (.agg sigV) (.int .i64 8)).run Tryz.prog w = .ok (.string ⟨#[43]⟩) w := by kernel_rfl
theorem index_sig9 (w : World) : (Instr.index 120 (.agg sigV) (.int .i64 9)).run Tryz.prog w = .ok (.string ⟨#[45]⟩) w := by kernel_rfl
theorem index_sig10 (w : World) : (Instr.index 120 (.agg sigV) (.int .i64 10)).run Tryz.prog w = .ok (.string ⟨#[42]⟩) w := by kernel_rfl
theorem index_sig11 (w : World) : (Instr.index 120 (.agg sigV) (.int .i64 11)).run Tryz.prog w = .ok (.string ⟨#[47]⟩) w := by kernel_rfl
theorem index_sig12 (w : World) : (Instr.index 120 (.agg sigV) (.int .i64 12)).run Tryz.prog w = .ok (.string ⟨#[37]⟩) w := by kernel_rfl
theorem index_sig13 (w : World) : (Instr.index 120 (.agg sigV) (.int .i64 13)).run Tryz.prog w = .ok (.string ⟨#[40]⟩) w := by kernel_rfl
theorem index_sig14 (w : World) : (Instr.index 120 (.agg sigV) (.int .i64 14)).run Tryz.prog w = .ok (.string ⟨#[41]⟩) w := by kernel_rfl
theorem index_sig15 (w : World) : (Instr.index 120 (.agg sigV) (.int .i64 15)).run Tryz.prog w = .ok (.string ⟨#[44]⟩) w := by kernel_rfl
theorem index_sig16 (w : World) : (Instr.index 120 (.agg sigV) (.int .i64 16)).run Tryz.prog w = .ok (.string ⟨#[46]⟩) w := by kernel_rfl
theorem index_sig17 (w : World) : (Instr.index 120 (.agg sigV) (.int .i64 17)).run Tryz.prog w = .ok (.string ⟨#[59]⟩) w := by kernel_rfl
theorem index_sig (w : World) (k : Nat) (h : k < signs.length) : (Instr.index 120 (.agg sigV) (.int .i64 k)).run Tryz.prog w = .ok (.string (str signs[k])) w := by
  match k, h with
  | 0, _ => exact index_sig0 w
  | 1, _ => exact index_sig1 w
  | 2, _ => exact index_sig2 w
  | 3, _ => exact index_sig3 w
  | 4, _ => exact index_sig4 w
  | 5, _ => exact index_sig5 w
  | 6, _ => exact index_sig6 w
  | 7, _ => exact index_sig7 w
  | 8, _ => exact index_sig8 w
  | 9, _ => exact index_sig9 w
  | 10, _ => exact index_sig10 w
  | 11, _ => exact index_sig11 w
  | 12, _ => exact index_sig12 w
  | 13, _ => exact index_sig13 w
  | 14, _ => exact index_sig14 w
  | 15, _ => exact index_sig15 w
  | 16, _ => exact index_sig16 w
  | 17, _ => exact index_sig17 w
  | k + 18, h => exact absurd h (by show ¬ k + 18 < 18; omega)
theorem signO_some {l w : List UInt8} (h : sgn l = some w) : tup (signO l) = .tuple #[.agg #[.int .i64 5, .string (str (if w = [33, 61] then [60, 62] else w)), .int .i64 0, .int .i64 0], .int .i64 w.length] := by
  unfold signO
  rw [h]
  rfl
theorem signO_none {l : List UInt8} (h : sgn l = none) : tup (signO l) = .tuple #[.agg #[.int .i64 0, .string ⟨#[]⟩, .int .i64 0, .int .i64 0], .int .i64 0] := by
  unfold signO
  rw [h]
  rfl
set_option maxRecDepth 100000 in
set_option maxHeartbeats 2000000 in
theorem sign_any (s : ByteArray) (w : World) (hE : Env w) : Calls Tryz.prog 56 #[.string s] w fun e w' => e = .returned (tup (signO s.data.toList)) ∧ Below w.heap.size w w' := by
  have HP := Lib.hid (fun x w => Tryz.strings_HasPrefix s x w)
  have HG := Lib.hid index_sig
  have h4 := hE.size
  obtain ⟨tt, fr, hg⟩ := hE.sg
  have bz := zbox w
  have hb0 := (Below.refl w.heap.size w).alloc (Nat.le_refl _) (.cells #[.int .i64 0, .string ⟨#[]⟩, .int .i64 0, .int .i64 0] 51)
  have hg0 := (hb0.block 0 (by omega)).trans hg
  clear hE hg
  obtain ⟨c0, c1, c2, c3⟩ := bz.zcells
  obtain ⟨f0, f1, f2, f3⟩ := bz.free
  go_enter Tryz.func56, Tryz.ntmps56
  go_wp2_with (refine wpList_load_row rfl 120 _ rfl 0 rfl tt _ fr _ hg0 Tryz.underlying120 rfl (by kernel_rfl) ?_)
  generalize w.alloc (.cells #[.int .i64 0, .string ⟨#[]⟩, .int .i64 0, .int .i64 0] 51) = W1 at *
  go_loopw [8] (fun i wr => ∃ k : Nat, k ≤ 18 ∧ i = .int .i64 k ∧ wr = W1 ∧ Hid (NoneYet s.data.toList k)) (fun i _ => 18 - (intOf i).toNat)
  case atStart => exact ⟨0, by omega, rfl, rfl, fun i h hi => by omega⟩
  case round =>
    obtain ⟨k, hk, rfl, rfl, HN⟩ := hrel
    by_cases hlt : k < 18
    · have hk18 : k < signs.length := hlt
      have hgk := HG.out wr k hk18
      have HQ := HP.out (str signs[k]) wr
      have HD := Lib.hid (fun hp => signO_some (HN.out.found hk18 hp))
      have HX := Lib.hid (HN.out.next hk18)
      generalize signs[k] = x at *
      have e : Lib.hasPrefix s.data.toList (str x).data.toList = x.isPrefixOf s.data.toList := by rw [str_list]; rfl
      rw [e] at HQ
      have hxs := str_size x
      clear e
      cases hp : x.isPrefixOf s.data.toList
      · rw [hp] at HQ
        have HX2 := Lib.hid (HX.out hp)
        clear hp HD HX
        generalize str x = y at *
        go_wp2_with (go_at_call 46; refine HQ.mono ?_; rintro e w' ⟨rfl, rfl⟩)
        go_roundw
        case measure => simp [intOf]; omega
        case rel => exact ⟨k + 1, by omega, by go_num, trivial, HX2.out⟩
      · rw [hp] at HQ
        have HD2 := Lib.hid (HD.out hp)
        clear hp HD HX
        by_cases hb : x = [33, 61]
        · subst hb
          rw [if_pos rfl] at HD2
          simp only [show str [33, 61] = ⟨#[33, 61]⟩ from rfl, show str [60, 62] = ⟨#[60, 62]⟩ from rfl] at *
          go_wp2_with (go_at_call 46; refine HQ.mono ?_; rintro e w' ⟨rfl, rfl⟩)
          exact bodyPost_ret (v := .tuple #[.agg #[.int .i64 5, .string ⟨#[60, 62]⟩, .int .i64 0, .int .i64 0], .int .i64 2]) (by simp [results, Tryz.results56, go_sem, c0, c1, c2, c3]) rfl ⟨by rw [HD2.out]; rfl, Below.set4 hb0 (Nat.le_refl _) _ _ _ _⟩
        · rw [if_neg hb] at HD2
          have hne : ((str x).toList == [33, 61]) = false := by
            rw [Lib.toList_data, str_list, beq_eq_false_iff_ne]
            exact hb
          rw [← hxs] at HD2
          clear hb hxs
          generalize str x = y at *
          go_wp2_with (go_at_call 46; refine HQ.mono ?_; rintro e w' ⟨rfl, rfl⟩)
          exact bodyPost_ret (v := .tuple #[.agg #[.int .i64 5, .string y, .int .i64 0, .int .i64 0], .int .i64 y.size]) (by simp [results, Tryz.results56, go_sem, c0, c1, c2, c3]) rfl ⟨by rw [HD2.out], Below.set4 hb0 (Nat.le_refl _) _ _ _ _⟩
    · have hk18 : k = 18 := by omega
      subst hk18
      have HD := Lib.hid (signO_none HN.out.none)
      go_wp2_with fail
      exact bodyPost_ret (v := .tuple #[.agg #[.int .i64 0, .string ⟨#[]⟩, .int .i64 0, .int .i64 0], .int .i64 0]) (by simp [results, Tryz.results56, go_sem, c0, c1, c2, c3]) rfl ⟨by rw [HD.out], Below.set4 hb0 (Nat.le_refl _) _ _ _ _⟩
end Go.Proofs.YthohfegnphocbaaGreatDoor
namespace Go.Proofs.YthohfegnphocbaaGreatDoor
open Go.RowKit
def TxtAt (l : List UInt8) (acc : List UInt8) (k : Nat) : Prop := txtR (l.drop 1) = (txtR (l.drop k)).map fun p => (acc ++ p.1, p.2 + (k - 1))
theorem TxtAt.start (l : List UInt8) : TxtAt l [] 1 := by
  unfold TxtAt
  cases txtR (l.drop 1) <;> simp
theorem txtR_other {c : UInt8} {r : List UInt8} (h : c ≠ 39) : txtR (c :: r) = (txtR r).map fun p => (c :: p.1, p.2 + 1) := by
  conv => lhs; unfold txtR
  rw [if_neg h]
theorem txtR_two (r : List UInt8) : txtR (39 :: 39 :: r) = (txtR r).map fun p => (39 :: p.1, p.2 + 2) := by
  conv => lhs; unfold txtR
  rw [if_pos rfl]
  simp
theorem txtR_end {r : List UInt8} (h : r.head? ≠ some 39) : txtR (39 :: r) = some ([], 1) := by
  conv => lhs; unfold txtR
  rw [if_pos rfl]
  cases r with
  | nil => rfl
  | cons d r =>
    have : d ≠ 39 := by simpa using h
    simp [this]
theorem TxtAt.other {l acc : List UInt8} {k : Nat} (h : TxtAt l acc k) (h1 : 1 ≤ k) (hk : k < l.length) (hc : l[k] ≠ 39) : TxtAt l (acc ++ [l[k]]) (k + 1) := by
  unfold TxtAt at *
  rw [h, List.drop_eq_getElem_cons hk, txtR_other hc]
  cases txtR (l.drop (k + 1)) <;> simp
  omega
theorem TxtAt.two {l acc : List UInt8} {k : Nat} (h : TxtAt l acc k) (h1 : 1 ≤ k) (hk : k + 1 < l.length) (hc : l[k] = 39) (hd : l[k + 1] = 39) : TxtAt l (acc ++ [39]) (k + 2) := by
  unfold TxtAt at *
  rw [h, List.drop_eq_getElem_cons (by omega), hc, List.drop_eq_getElem_cons hk, hd, txtR_two]
  cases txtR (l.drop (k + 2)) <;> simp
  omega
theorem TxtAt.done {l acc : List UInt8} {k : Nat} (h : TxtAt l acc k) (h1 : 1 ≤ k) (hk : k < l.length) (hc : l[k] = 39) (hd : ∀ h : k + 1 < l.length, l[k + 1] ≠ 39) : txtR (l.drop 1) = some (acc, k) := by
  unfold TxtAt at h
  rw [h, List.drop_eq_getElem_cons hk, hc, txtR_end]
  · simp
    omega
  · rcases Nat.lt_or_ge (k + 1) l.length with h2 | h2
    · rw [List.drop_eq_getElem_cons h2]
      exact fun h3 => hd h2 (Option.some.inj h3)
    · rw [List.drop_eq_nil_of_le h2]
      simp
theorem TxtAt.none {l acc : List UInt8} {k : Nat} (h : TxtAt l acc k) (hk : l.length ≤ k) : txtR (l.drop 1) = none := by
  unfold TxtAt at h
  rw [h, List.drop_eq_nil_of_le hk]
  rfl
def textO (l : List UInt8) : Option Tk := (txtR (l.drop 1)).map fun p => ⟨3, p.1, 0, p.2 + 1⟩
theorem textO_done {l acc : List UInt8} {k : Nat} (h : txtR (l.drop 1) = some (acc, k)) : tup (textO l) = .tuple #[.agg #[.int .i64 3, .string (str acc), .int .i64 0, .int .i64 0], .int .i64 ((k : Int) + 1)] := by
  unfold textO
  rw [h]
  rfl
theorem textO_none {l : List UInt8} (h : txtR (l.drop 1) = none) : tup (textO l) = .tuple #[.agg #[.int .i64 0, .string ⟨#[]⟩, .int .i64 0, .int .i64 0], .int .i64 0] := by
  unfold textO
  rw [h]
  rfl
set_option maxRecDepth 100000 in
set_option maxHeartbeats 2000000 in
theorem text_any (s : ByteArray) (w : World) (hs : s.size ≤ 4096) : Calls Tryz.prog 55 #[.string s] w fun e w' => e = .returned (tup (textO s.data.toList)) ∧ Below w.heap.size w w' := by
  have bz := zbox w
  have hb0 := (Below.refl w.heap.size w).alloc (Nat.le_refl _) (.cells #[.int .i64 0, .string ⟨#[]⟩, .int .i64 0, .int .i64 0] 51)
  go_enter Tryz.func55, Tryz.ntmps55
  go_wp2_with fail
  generalize w.alloc (.cells #[.int .i64 0, .string ⟨#[]⟩, .int .i64 0, .int .i64 0] 51) = W1 at *
  have H0 := Lib.hid (Wrote.refl (Own.nil W1 W1.heap.size))
  have HB0 := Lib.hid hb0
  have HZ := Lib.hid bz
  clear hb0 bz
  go_loopw [5, 4] (fun i bv wr => ∃ (k : Nat) (acc : List UInt8), 1 ≤ k ∧ k ≤ s.size + 1 ∧ acc.length ≤ k ∧ i = .int .i64 k ∧ Hid (TxtAt s.data.toList acc k) ∧ Hid (Wrote W1 W1.heap.size (.slice none 0 0) bv acc wr)) (fun i _ _ => s.size + 1 - (intOf i).toNat)
  case atStart => exact ⟨1, [], Nat.le_refl _, by omega, Nat.zero_le _, rfl, TxtAt.start _, H0.out⟩
  case round =>
    obtain ⟨k, acc, h1, hk, hacc, rfl, HT, HW⟩ := hrel
    have HB := Lib.hid HW.out.belowNil
    have bz2 := HZ.out.later HB.out
    have B2 := bthen HB0.out HB.out
    by_cases hlt : k < s.size
    · have hkl : k < s.data.toList.length := by rw [size_list]; exact hlt
      have hkz : (k : Int) < (s.size : Int) := by omega
      by_cases hq : s[k] = 39
      · have hq1 : ((s[k].toNat : Nat) : Int) = 39 := by rw [hq]; rfl
        have hql : s.data.toList[k] = 39 := by rw [list_get hlt]; exact hq
        by_cases hlt2 : k + 1 < s.size
        · have hk2 : k + 1 < s.data.toList.length := by rw [size_list]; exact hlt2
          have hkz2 : ((k : Int) + 1 == (s.size : Int)) = false := by simp; omega
          have p0 : (0 : Int) ≤ (k : Int) + 1 := by omega
          have p1 : ((k : Int) + 1).toNat = k + 1 := by omega
          by_cases hq2 : s[k + 1] = 39
          · have hq3 : ((s[k + 1].toNat : Nat) : Int) = 39 := by rw [hq2]; rfl
            have HD := Lib.hid (HT.out.two h1 hk2 hql (by rw [list_get hlt2]; exact hq2))
            obtain ⟨v2, w2, hr2, hW2⟩ := HW.out.one 39 (by omega) (Nat.le_refl _)
            have HW2 := Lib.hid hW2
            simp only [show ((39 : UInt8).toNat : Int) = 39 from rfl] at hr2
            clear hq hql hq2 hW2 bz2
            go_wp2_with (at_builtin; refine Lib.wpList_append_run_sl _ rfl _ _ 67 rfl _ _ rfl rfl hr2 ?_)
            go_roundw
            case rel => exact ⟨k + 2, acc ++ [39], by omega, by omega, by simp; omega, by go_num, HD.out, HW2.out⟩
            case measure => simp [intOf]; omega
          · have hq3 : (((s[k + 1].toNat : Nat) : Int) != 39) = true := by
              rw [bne_iff_ne]
              intro h
              exact hq2 (UInt8.toNat_inj.1 (by show s[k + 1].toNat = 39; omega))
            have HD := Lib.hid (textO_done (HT.out.done h1 hkl hql (fun h => by rw [list_get hlt2]; exact hq2)))
            obtain ⟨A2, c2, rfl, -, -, hyw⟩ := HW.out.own.bytes
            have hcv := conv_at (c := c2) hyw
            obtain ⟨c0, c1, c2, c3⟩ := bz2.zcells
            obtain ⟨f0, f1, f2, f3⟩ := bz2.free
            clear hq hql hq2 bz2 hyw
            generalize acc.length = al at *
            go_wp2_with fail
            exact bodyPost_ret (v := .tuple #[.agg #[.int .i64 3, .string (str acc), .int .i64 0, .int .i64 0], .int .i64 ((k : Int) + 1)]) (by simp [results, Tryz.results55, go_sem, c0, c1, c2, c3]) rfl ⟨by rw [HD.out], Below.set4 B2 (Nat.le_refl _) _ _ _ _⟩
        · have hkz2 : ((k : Int) + 1 == (s.size : Int)) = true := by simp; omega
          have HD := Lib.hid (textO_done (HT.out.done h1 hkl hql (fun h => by rw [size_list] at h; omega)))
          obtain ⟨A2, c2, rfl, -, -, hyw⟩ := HW.out.own.bytes
          have hcv := conv_at (c := c2) hyw
          obtain ⟨c0, c1, c2, c3⟩ := bz2.zcells
          obtain ⟨f0, f1, f2, f3⟩ := bz2.free
          clear hq hql bz2 hyw
          generalize acc.length = al at *
          go_wp2_with fail
          exact bodyPost_ret (v := .tuple #[.agg #[.int .i64 3, .string (str acc), .int .i64 0, .int .i64 0], .int .i64 ((k : Int) + 1)]) (by simp [results, Tryz.results55, go_sem, c0, c1, c2, c3]) rfl ⟨by rw [HD.out], Below.set4 B2 (Nat.le_refl _) _ _ _ _⟩
      · have hq1 : (((s[k].toNat : Nat) : Int) == 39) = false := by
          rw [beq_eq_false_iff_ne]
          intro h
          exact hq (UInt8.toNat_inj.1 (by show s[k].toNat = 39; omega))
        have HD := HT.out.other h1 hkl (by rw [list_get hlt]; exact hq)
        rw [list_get hlt] at HD
        have HD := Lib.hid HD
        obtain ⟨v2, w2, hr2, hW2⟩ := HW.out.one s[k] (by omega) (Nat.le_refl _)
        have HW2 := Lib.hid hW2
        clear hq hW2 bz2
        go_wp2_with (at_builtin; refine Lib.wpList_append_run_sl _ rfl _ _ 67 rfl _ _ rfl rfl hr2 ?_)
        go_roundw
        case rel => exact ⟨k + 1, acc ++ [s[k]], by omega, by omega, by simp; omega, by go_num, HD.out, HW2.out⟩
        case measure => simp [intOf]; omega
    · have HD := Lib.hid (textO_none (HT.out.none (by rw [size_list]; omega)))
      have hkz : ¬ ((k : Int) < (s.size : Int)) := by omega
      obtain ⟨c0, c1, c2, c3⟩ := bz2.zcells
      obtain ⟨f0, f1, f2, f3⟩ := bz2.free
      clear bz2
      go_wp2_with fail
      exact bodyPost_ret (v := .tuple #[.agg #[.int .i64 0, .string ⟨#[]⟩, .int .i64 0, .int .i64 0], .int .i64 0]) (by simp [results, Tryz.results55, go_sem, c0, c1, c2, c3]) rfl ⟨by rw [HD.out], Below.set4 B2 (Nat.le_refl _) _ _ _ _⟩
end Go.Proofs.YthohfegnphocbaaGreatDoor
namespace Go.Proofs.YthohfegnphocbaaGreatDoor
open Go.RowKit
def bgB (l : List UInt8) : Bool := [120, 39].isPrefixOf l || [88, 39].isPrefixOf l
set_option maxRecDepth 100000 in
set_option maxHeartbeats 1000000 in
theorem beginsBlob_any (s : ByteArray) (w : World) : Calls Tryz.prog 49 #[.string s] w fun e w' => e = .returned (.bool (bgB s.data.toList)) ∧ w' = w := by
  have h1 := Tryz.strings_HasPrefix s ⟨#[120, 39]⟩ w
  have h2 := Tryz.strings_HasPrefix s ⟨#[88, 39]⟩ w
  have e1 : Lib.hasPrefix s.data.toList (⟨#[120, 39]⟩ : ByteArray).data.toList = [120, 39].isPrefixOf s.data.toList := rfl
  have e2 : Lib.hasPrefix s.data.toList (⟨#[88, 39]⟩ : ByteArray).data.toList = [88, 39].isPrefixOf s.data.toList := rfl
  rw [e1] at h1
  rw [e2] at h2
  unfold bgB
  generalize [120, 39].isPrefixOf s.data.toList = a at *
  generalize [88, 39].isPrefixOf s.data.toList = b at *
  cases a
  all_goals
    go_enter Tryz.func49, Tryz.ntmps49
    go_wp2_with (first | (go_at_call 46; first | (refine h1.mono ?_; rintro e w' ⟨rfl, rfl⟩) | (refine h2.mono ?_; rintro e w' ⟨rfl, rfl⟩)))
    go_ret
    exact ⟨rfl, rfl⟩
theorem bgB_iff (c : UInt8) (r : List UInt8) : bgB (c :: r) = true ↔ (c = 120 ∨ c = 88) ∧ r.head? = some 39 := by
  unfold bgB
  cases r with
  | nil => simp [List.isPrefixOf]
  | cons d r =>
    simp only [List.isPrefixOf, Bool.or_eq_true, Bool.and_eq_true, beq_iff_eq, Bool.and_true, List.head?_cons, Option.some.injEq]
    constructor
    · rintro (⟨h1, h2⟩ | ⟨h1, h2⟩)
      · exact ⟨Or.inl h1.symm, h2.symm⟩
      · exact ⟨Or.inr h1.symm, h2.symm⟩
    · rintro ⟨h1 | h1, h2⟩
      · exact Or.inl ⟨h1.symm, h2.symm⟩
      · exact Or.inr ⟨h1.symm, h2.symm⟩
theorem bgB_len {l : List UInt8} (h : bgB l = true) : 2 ≤ l.length := by
  match l with
  | [] => simp [bgB, List.isPrefixOf] at h
  | [c] => simp [bgB, List.isPrefixOf] at h
  | c :: d :: r => simp
theorem oneT_blob {c : UInt8} {r : List UInt8} (h : bgB (c :: r) = true) : oneT (c :: r) = blobO (c :: r) := by
  simp only [oneT]
  rw [if_pos ((bgB_iff c r).1 h)]
  unfold blobO
  rw [show (c :: r).drop 2 = r.tail by cases r <;> rfl]
theorem oneT_word {c : UInt8} {r : List UInt8} (h : bgB (c :: r) = false) (h2 : isLet c = true) : oneT (c :: r) = wordO (c :: r) := by
  simp only [oneT]
  rw [if_neg (fun hh => by rw [(bgB_iff c r).2 hh] at h; cases h), if_pos h2]
  rfl
theorem oneT_numO {c : UInt8} {r : List UInt8} (h : isDig c = true) : oneT (c :: r) = numO (c :: r) := oneT_num c r h
theorem oneT_text {c : UInt8} {r : List UInt8} (h : c = 39) : oneT (c :: r) = textO (c :: r) := by
  subst h
  simp only [oneT]
  rw [if_neg (by simp), if_neg (by decide), if_neg (by decide), if_pos trivial]
  rfl
theorem oneT_sign {c : UInt8} {r : List UInt8} (h : bgB (c :: r) = false) (h1 : isLet c = false) (h2 : isDig c = false) (h3 : c ≠ 39) : oneT (c :: r) = signO (c :: r) := by
  simp only [oneT]
  rw [if_neg (fun hh => by rw [(bgB_iff c r).2 hh] at h; cases h), if_neg (by simp [h1]), if_neg (by simp [h2]), if_neg h3]
  rfl
theorem wLen_pos {c : UInt8} {r : List UInt8} (h : isLet c = true) : 0 < wLen (c :: r) := by
  unfold wLen
  rw [List.takeWhile_cons_of_pos (by simp [isWch, h])]
  simp
theorem dgs_pos {c : UInt8} {r : List UInt8} (h : isDig c = true) : dgs (c :: r) ≠ [] := by
  unfold dgs
  rw [List.takeWhile_cons_of_pos h]
  simp
def CutAt (l : List UInt8) (ts : List T) (k : Nat) : Prop := cutP 0 l = preE ts (cutP k (l.drop k))
theorem CutAt.start (l : List UInt8) : CutAt l [] 0 := by
  unfold CutAt
  rw [preE_nil, List.drop_zero]
theorem CutAt.past {l : List UInt8} {ts : List T} {k m : Nat} (h : CutAt l ts k) (hb : bl false (l.drop k) = m + bl false ((l.drop k).drop m)) : CutAt l ts (k + m) := by
  unfold CutAt at *
  rw [h, cut_past hb k, List.drop_drop]
theorem CutAt.ws {l : List UInt8} {ts : List T} {k : Nat} (h : CutAt l ts k) (hk : k < l.length) (hc : isWs l[k] = true) : CutAt l ts (k + 1) := by
  refine h.past ?_
  rw [List.drop_eq_getElem_cons hk, bl_ws hc]
  rfl
theorem dd_cons {q : List UInt8} (h : [45, 45].isPrefixOf q = true) : ∃ r, q = 45 :: 45 :: r := by
  obtain ⟨r, hr⟩ := List.isPrefixOf_iff_prefix.1 h
  exact ⟨r, hr.symm⟩
theorem CutAt.rem {l : List UInt8} {ts : List T} {k m : Nat} (h : CutAt l ts k) (hd : [45, 45].isPrefixOf (l.drop k) = true) (h1 : ∀ i, i < m → (l.drop k)[i]? ≠ some 10) (h2 : (l.drop k)[m]? = some 10) : CutAt l ts (k + m + 1) := by
  refine h.past (m := m + 1) ?_
  obtain ⟨r, hr⟩ := dd_cons hd
  rw [show bl false (l.drop k) = bl true (l.drop k) by rw [hr]; exact bl_dash r]
  exact bl_line _ _ h1 h2
theorem CutAt.end_ {l : List UInt8} {ts : List T} {k : Nat} (h : CutAt l ts k) (hk : k ≤ l.length) (hb : bl false (l.drop k) = (l.drop k).length) : cutP 0 l = .ok (ts ++ [⟨6, [], 0, l.length⟩]) := by
  unfold CutAt at h
  rw [h, cut_none k hb, List.length_drop, show k + (l.length - k) = l.length by omega]
  rfl
theorem CutAt.remEnd {l : List UInt8} {ts : List T} {k : Nat} (h : CutAt l ts k) (hk : k ≤ l.length) (hd : [45, 45].isPrefixOf (l.drop k) = true) (h1 : ∀ i : Nat, (l.drop k)[i]? ≠ some 10) : cutP 0 l = .ok (ts ++ [⟨6, [], 0, l.length⟩]) := by
  refine h.end_ hk ?_
  obtain ⟨r, hr⟩ := dd_cons hd
  rw [show bl false (l.drop k) = bl true (l.drop k) by rw [hr]; exact bl_dash r]
  exact bl_noline _ h1
theorem CutAt.stop {l : List UInt8} {ts : List T} {k : Nat} (h : CutAt l ts k) (hk : k = l.length) : cutP 0 l = .ok (ts ++ [⟨6, [], 0, l.length⟩]) := by
  refine h.end_ (by omega) ?_
  rw [List.drop_eq_nil_of_le (by omega)]
  rfl
theorem no_blank {l : List UInt8} {k : Nat} (hk : k < l.length) (hw : isWs l[k] = false) (hd : [45, 45].isPrefixOf (l.drop k) = false) : bl false (l.drop k) = 0 := by
  rw [List.drop_eq_getElem_cons hk] at hd ⊢
  refine bl_none hw (fun h => ?_)
  cases hr : l.drop (k + 1) with
  | nil => rw [hr] at h; simp at h
  | cons d r =>
    rw [hr] at h hd
    obtain ⟨h1, h2⟩ := h
    rw [List.head?_cons] at h2
    rw [h1, Option.some.inj h2] at hd
    simp [List.isPrefixOf] at hd
theorem CutAt.tok {l : List UInt8} {ts : List T} {k : Nat} {t : Tk} (h : CutAt l ts k) (hk : k < l.length) (hb : bl false (l.drop k) = 0) (ho : oneT (l.drop k) = some t) : CutAt l (ts ++ [⟨t.k, t.s, t.i, k⟩]) (k + t.n) ∧ k + t.n ≤ l.length ∧ 0 < t.n := by
  have hn := oneT_len ho
  rw [List.length_drop] at hn
  refine ⟨?_, by omega, hn.1⟩
  unfold CutAt at *
  rw [h, cut_one (by intro h2; have := congrArg List.length h2; rw [List.length_drop] at this; simp at this; omega) hb ho k, preE_pre, List.drop_drop]
theorem CutAt.bad {l : List UInt8} {ts : List T} {k : Nat} (h : CutAt l ts k) (hk : k < l.length) (hb : bl false (l.drop k) = 0) (ho : oneT (l.drop k) = none) : cutP 0 l = .error k := by
  unfold CutAt at *
  rw [h, cut_bad (by intro h2; have := congrArg List.length h2; rw [List.length_drop] at this; simp at this; omega) hb ho k]
  rfl
def Gives (w : World) (l : List UInt8) (e : Ending) (w' : World) : Prop := (match cutP 0 l with
  | .error q => e = .returned (.tuple #[.slice none 0 0, .int .i64 q, .int .i64 60])
  | .ok ts => ∃ A c, e = .returned (.tuple #[.slice A ts.length c, .int .i64 0, .int .i64 0]) ∧ ts.length ≤ c ∧ TAt w' w'.heap.size A ts) ∧ Below w.heap.size w w'
theorem Gives.bad {w w' : World} {l : List UInt8} {q : Nat} {e : Ending} (h : cutP 0 l = .error q) (he : e = .returned (.tuple #[.slice none 0 0, .int .i64 q, .int .i64 60])) (hb : Below w.heap.size w w') : Gives w l e w' := by
  unfold Gives
  rw [h]
  exact ⟨he, hb⟩
theorem Gives.good {w w' : World} {l : List UInt8} {ts : List T} {v : Value} {e : Ending} (h : cutP 0 l = .ok ts) (he : e = .returned (.tuple #[v, .int .i64 0, .int .i64 0])) (ho : OwnT w' w.heap.size v ts) (hb : Below w.heap.size w w') : Gives w l e w' := by
  unfold Gives
  rw [h]
  obtain ⟨A, c, rfl, hc, -, ht⟩ := ho.row
  exact ⟨⟨A, c, he, hc, ht⟩, hb⟩
end Go.Proofs.YthohfegnphocbaaGreatDoor
