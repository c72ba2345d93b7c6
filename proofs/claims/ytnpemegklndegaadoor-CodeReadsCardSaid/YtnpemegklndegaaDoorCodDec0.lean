/- Plain facts for Decode and Unkey: what is read turned once more, rows that a call owns and fills one by one, bytes seen from an earlier world. No condition. -/
import Derived.Test.YtnpemegklndegaaDoorCodReadX
import Derived.Test.YtnpemegklndegaaDoorCodRowOwn
import Derived.Laws.OwnMore
namespace Go.Proofs.YtnpemegklndegaaDoor
open Go.RowKit
theorem xorN_plain (n : Nat) (h : n < 18446744073709551616) : bits .xor .u64 (n : Int) 0 = ((trn false n : Nat) : Int) := by
  have := bits_xor_u64_nat n 0 h (by decide)
  simpa [trn] using this
theorem xorN_ordered (n : Nat) (h : n < 18446744073709551616) : bits .xor .u64 (n : Int) 9223372036854775808 = ((trn true n : Nat) : Int) := by
  have := bits_xor_u64_nat n 9223372036854775808 h (by decide)
  rw [xor_top _ h] at this
  simpa [trn] using this
theorem readPlain (l : List UInt8) (A : Option Addr) (c : Nat) (w : World) (hy : BytesAt w w.heap.size A l) (hc : l.length ≤ c) (hm : l.length ≤ 1000000) :
    Calls Tryd.prog 32 #[formV 0 37 38, .slice A l.length c] w (GaveV w A (rVal false l) l) := read_any 0 37 38 false xorN_plain rTxt38 enter38 l A c w hy hc hm
theorem readOrdered (l : List UInt8) (A : Option Addr) (c : Nat) (w : World) (hy : BytesAt w w.heap.size A l) (hc : l.length ≤ c) (hm : l.length ≤ 1000000) :
    Calls Tryd.prog 32 #[formV 9223372036854775808 41 42, .slice A l.length c] w (GaveV w A (rVal true l) l) := read_any 9223372036854775808 41 42 true xorN_ordered rTxt42 enter42 l A c w hy hc hm
/-- Bytes that lay below: they did so before. -/
theorem LiesS.back {w w' : World} {b : Nat} {v : Value} {l : List UInt8} (h : LiesS w' b v l) (hb : Below w.heap.size w w') (hl : b < w.heap.size) : LiesS w b v l := by
  obtain ⟨off, c, hv, hc, hy⟩ := h
  refine ⟨off, c, hv, hc, fun h0 => ?_⟩
  obtain ⟨b2, off2, hA, -, hcl⟩ := hy h0
  simp at hA
  obtain ⟨rfl, rfl⟩ := hA
  exact ⟨b, off, rfl, hl, fun j hj => ((hb.cell (p := ⟨b, _, none⟩) hl).symm.trans (hcl j hj))⟩
theorem LiesS.bytes {w w' : World} {b off n c : Nat} {l : List UInt8} (h : LiesS w b (.slice (some ⟨b, off, none⟩) n c) l) (hb : Below w.heap.size w w') : n = l.length ∧ n ≤ c ∧ BytesAt w' w'.heap.size (some ⟨b, off, none⟩) l := by
  obtain ⟨off', c', hv, hc, hy⟩ := h
  simp only [Value.slice.injEq, Option.some.injEq, Addr.mk.injEq, and_true, true_and] at hv
  obtain ⟨rfl, rfl, rfl⟩ := hv
  exact ⟨rfl, hc, hy.later hb⟩
theorem flat_set (zs : List V) (k : Nat) (v : V) (h : k < zs.length) : (((flat zs).set (k * 3) (.int .i64 v.k)).set (k * 3 + 1) (.int .i64 v.i)).set (k * 3 + 2) (.string v.s) = flat (zs.set k v) := by
  induction zs generalizing k with
  | nil => simp at h
  | cons a l ih =>
    cases k with
    | zero => simp [flat, c3]
    | succ k =>
      have e : ∀ (j : Nat) (x : Value) (m : List Value), (c3 a ++ m).set (j + 3) x = c3 a ++ m.set j x := fun j x m => by simp [c3]
      show (((c3 a ++ flat l).set ((k + 1) * 3) _).set ((k + 1) * 3 + 1) _).set ((k + 1) * 3 + 2) _ = c3 a ++ flat (l.set k v)
      rw [show (k + 1) * 3 = k * 3 + 3 by omega, show k * 3 + 3 + 1 = k * 3 + 1 + 3 by omega, show k * 3 + 3 + 2 = k * 3 + 2 + 3 by omega, e, e, e, ih k (by simpa using h)]
def zeroV : V := ⟨0, 0, ⟨#[]⟩⟩
theorem flat_zero (n : Nat) : flat (List.replicate (n + 1) zeroV) = flat (List.replicate n zeroV) ++ c3 zeroV := by
  rw [List.replicate_succ', flat_append]
  simp [flat]
theorem made_flat (n : Nat) : (madeCells #[.int .i64 0, .int .i64 0, .string ⟨#[]⟩] (n * 3)).toList = flat (List.replicate n zeroV) := by
  apply List.ext_getElem?
  intro j
  by_cases hj : j < n * 3
  · have hq : j / 3 < (List.replicate n zeroV).length := by rw [List.length_replicate]; omega
    have hg := flat_get (List.replicate n zeroV) (j / 3) (j % 3) hq (by omega)
    rw [show j / 3 * 3 + j % 3 = j by omega] at hg
    rw [hg]
    have h3 : j % 3 = 0 ∨ j % 3 = 1 ∨ j % 3 = 2 := by omega
    rcases h3 with h | h | h <;> simp [madeCells, hj, h, c3, zeroV]
  · have : (flat (List.replicate n zeroV)).length ≤ j := by rw [flat_len, List.length_replicate]; omega
    rw [List.getElem?_eq_none this]
    simp [madeCells, hj]
theorem ownV_made (w : World) (B n : Nat) (hB : B ≤ w.heap.size) (hn : n ≤ 1000) : OwnV (w.alloc (.cells (madeCells #[.int .i64 0, .int .i64 0, .string ⟨#[]⟩] (n * 3)) 43)) B (.slice (some ⟨w.heap.size, 0, none⟩) n n) (List.replicate n zeroV) := by
  have h := World.ownsRow_lit (base := B) (e := 43) (size := 3) w (madeCells #[.int .i64 0, .int .i64 0, .string ⟨#[]⟩] (n * 3)) n hB (by unfold maxLen; omega) (size_madeCells _ _)
  unfold OwnV
  rw [made_flat] at h
  rw [List.length_replicate]
  exact h
theorem make_any (k : UInt8) (w : World) : (Instr.makeSlice 23 (.int .u8 k.toNat) (.int .u8 k.toNat)).run Tryd.prog w = .ok (.slice (some ⟨w.heap.size, 0, none⟩) k.toNat k.toNat) (w.alloc (.cells (madeCells #[.int .i64 0, .int .i64 0, .string ⟨#[]⟩] (k.toNat * 3)) 43)) := by
  obtain ⟨i0, hi, hz0, hz1, hz2⟩ := info_parts info29
  have hk := k.toNat_lt
  have h := run_make (P := Tryd.prog) w 23 43 i0 _ Tryd.underlying23 hi hz0 .u8 .u8 (k.toNat : Int) (k.toNat : Int) (by omega) (by omega) (by rw [hz2]; omega) (by omega)
  rw [hz1] at h
  simp only [Int.toNat_natCast] at h
  exact h
/-- A value laid into a row that the call owns. -/
theorem OwnV.stored {w : World} {B g n c : Nat} {zs : List V} (h : OwnV w B (.slice (some ⟨g, 0, none⟩) n c) zs) (hn : zs.length = n) (k : Nat) (hk : k < n) (v : V) : OwnV (((w.setCell ⟨g, k * 3, none⟩ (.int .i64 v.k)).setCell ⟨g, k * 3 + 1, none⟩ (.int .i64 v.i)).setCell ⟨g, k * 3 + 2, none⟩ (.string v.s)) B (.slice (some ⟨g, 0, none⟩) n c) (zs.set k v) := by
  subst hn
  unfold OwnV at h ⊢
  rw [List.length_set, ← flat_set zs k v hk]
  exact (((h.stored _ _).1.stored _ _).1.stored _ _).1
theorem OwnV.cellsAt {w : World} {B g n c : Nat} {zs : List V} (h : OwnV w B (.slice (some ⟨g, 0, none⟩) n c) zs) (hn : zs.length = n) (k : Nat) (hk : k < n) : w.cell? ⟨g, k * 3, none⟩ = some (.int .i64 (zs[k]'(hn ▸ hk)).k) ∧ w.cell? ⟨g, k * 3 + 1, none⟩ = some (.int .i64 (zs[k]'(hn ▸ hk)).i) ∧ w.cell? ⟨g, k * 3 + 2, none⟩ = some (.string (zs[k]'(hn ▸ hk)).s) := by
  subst hn
  have e := flat_get zs k
  unfold OwnV at h
  refine ⟨?_, ?_, ?_⟩
  · rw [h.cellAt _ (by omega)]; exact e 0 hk (by omega)
  · rw [h.cellAt _ (by omega)]; exact e 1 hk (by omega)
  · rw [h.cellAt _ (by omega)]; exact e 2 hk (by omega)
theorem OwnV.thaw {w : World} {B g n c : Nat} {zs : List V} (h : OwnV w B (.slice (some ⟨g, 0, none⟩) n c) zs) (hn : zs.length = n) (j : Nat) : w.frozen? ⟨g, j, none⟩ = false := by
  subst hn
  exact World.ownsRow.frozenAt h j
theorem OwnV.at {w : World} {B g n c : Nat} {zs : List V} (h : OwnV w B (.slice (some ⟨g, 0, none⟩) n c) zs) : B ≤ g ∧ g < w.heap.size := h.block (k := g) rfl
/-- What a row read out of bytes is told as. -/
def GaveD (w : World) (o : Option (List V × Nat)) (e : Ending) (w' : World) : Prop :=
  Below w.heap.size w w' ∧ match o with
  | none => e = .returned (.tuple #[.slice none 0 0, .int .i64 0, .int .i64 50])
  | some (xs, n) => ∃ A c, e = .returned (.tuple #[.slice A xs.length c, .int .i64 n, .int .i64 0]) ∧ xs.length ≤ c ∧ RowAt w' w'.heap.size A xs
def GaveU (w : World) (o : Option (List V)) (e : Ending) (w' : World) : Prop :=
  Below w.heap.size w w' ∧ match o with
  | none => e = .returned (.tuple #[.slice none 0 0, .int .i64 50])
  | some xs => ∃ A c, e = .returned (.tuple #[.slice A xs.length c, .int .i64 0]) ∧ xs.length ≤ c ∧ RowAt w' w'.heap.size A xs
theorem row_new (w : World) (v : V) : RowAt (w.alloc (b3 v 43)) (w.alloc (b3 v 43)).heap.size (some ⟨w.heap.size, 0, none⟩) [v] := fun _ => by
  refine ⟨w.heap.size, 0, rfl, by simp, fun j hj => ?_⟩
  have : j = 0 := by simpa using hj
  subst this
  obtain ⟨h1, h2, h3⟩ := b3_cells (heap_alloc_new w (b3 v 43))
  exact ⟨h1, h2, h3⟩
/-- How far a row was read: so many of its values came, so many bytes are behind. -/
structure Read (w : World) (b n : Nat) (t : List UInt8) (j : Nat) (ys : List V) (bv : Value) (r : List UInt8) (m : Nat) : Prop where
  lies : LiesS w b bv r
  rest : r = t.drop m
  le : m ≤ t.length
  row : rVals false n t = (rVals false (n - j) r).map fun q => (ys ++ q.1, m + q.2)
theorem Read.start {w : World} {b n : Nat} {t : List UInt8} {bv : Value} (h : LiesS w b bv t) : Read w b n t 0 [] bv t 0 := ⟨h, rfl, Nat.zero_le _, by cases rVals false n t <;> simp⟩
theorem Read.non {w : World} {b n : Nat} {t : List UInt8} {j : Nat} {ys : List V} {bv : Value} {r : List UInt8} {m : Nat} (h : Read w b n t j ys bv r m) (hj : j < n) (hr : rVal false r = none) : rVals false n t = none := by
  rw [h.row, show n - j = (n - (j + 1)) + 1 by omega]
  simp [rVals, hr]
theorem Read.more {w : World} {b n : Nat} {t : List UInt8} {j : Nat} {ys : List V} {bv : Value} {r : List UInt8} {m : Nat} (h : Read w b n t j ys bv r m) (hj : j < n) {v : V} {k : Nat} (hr : rVal false r = some (v, k)) {u : Value} (hu : LiesS w b u (r.drop k)) : Read w b n t (j + 1) (ys ++ [v]) u (r.drop k) (m + k) := by
  obtain ⟨-, hk, -⟩ := wVal_rVal false r v k hr
  have hl : r.length = t.length - m := by rw [h.rest, List.length_drop]
  have hle := h.le
  refine ⟨hu, by rw [h.rest, List.drop_drop], by omega, ?_⟩
  rw [h.row, show n - j = (n - (j + 1)) + 1 by omega]
  simp only [rVals, hr, Option.bind_some]
  cases rVals false (n - (j + 1)) (r.drop k) with
  | none => rfl
  | some q => simp; omega
theorem Read.done {w : World} {b n : Nat} {t : List UInt8} {ys : List V} {bv : Value} {r : List UInt8} {m : Nat} (h : Read w b n t n ys bv r m) : rVals false n t = some (ys, m) ∧ r.length + m = t.length := by
  refine ⟨?_, ?_⟩
  · rw [h.row, Nat.sub_self]
    simp [rVals]
  · rw [h.rest, List.length_drop]
    have := h.le
    omega
/-- How far a key was read. -/
structure ReadK (w : World) (b : Nat) (l : List UInt8) (ys : List V) (bv : Value) (r : List UInt8) : Prop where
  lies : LiesS w b bv r
  len : ys.length ≤ 64
  le : r.length ≤ l.length
  row : rAll 64 l = (rAll (64 - ys.length) r).map fun q => ys ++ q
theorem ReadK.start {w : World} {b : Nat} {l : List UInt8} {bv : Value} (h : LiesS w b bv l) : ReadK w b l [] bv l := ⟨h, by simp, Nat.le_refl _, by cases rAll 64 l <;> simp⟩
theorem rAll_cons {n : Nat} {r : List UInt8} (hr : r ≠ []) : rAll (n + 1) r = (rVal true r).bind fun p => (rAll n (r.drop p.2)).map (p.1 :: ·) := by
  cases r with
  | nil => exact absurd rfl hr
  | cons c r => rfl
theorem ReadK.non {w : World} {b : Nat} {l : List UInt8} {ys : List V} {bv : Value} {r : List UInt8} (h : ReadK w b l ys bv r) (h0 : r ≠ []) (hr : rVal true r = none) : rAll 64 l = none := by
  rw [h.row]
  rcases Nat.lt_or_ge ys.length 64 with h1 | h1
  · rw [show 64 - ys.length = (63 - ys.length) + 1 by omega, rAll_cons h0, hr]
    rfl
  · rw [show 64 - ys.length = 0 by omega]
    cases r with
    | nil => exact absurd rfl h0
    | cons c r => rfl
theorem ReadK.full {w : World} {b : Nat} {l : List UInt8} {ys : List V} {bv : Value} {r : List UInt8} (h : ReadK w b l ys bv r) (h0 : r ≠ []) (hn : ys.length = 64) : rAll 64 l = none := by
  rw [h.row, hn]
  cases r with
  | nil => exact absurd rfl h0
  | cons c r => rfl
theorem ReadK.more {w : World} {b : Nat} {l : List UInt8} {ys : List V} {bv : Value} {r : List UInt8} (h : ReadK w b l ys bv r) (h0 : r ≠ []) (hn : ys.length < 64) {v : V} {k : Nat} (hr : rVal true r = some (v, k)) {u : Value} (hu : LiesS w b u (r.drop k)) : ReadK w b l (ys ++ [v]) u (r.drop k) := by
  have := h.le
  refine ⟨hu, by simp; omega, by rw [List.length_drop]; omega, ?_⟩
  rw [h.row, show 64 - ys.length = (63 - ys.length) + 1 by omega, rAll_cons h0, hr, List.length_append, List.length_singleton, show 64 - (ys.length + 1) = 63 - ys.length by omega]
  simp only [Option.bind_some]
  cases rAll (63 - ys.length) (r.drop k) with
  | none => rfl
  | some q => simp
theorem ReadK.done {w : World} {b : Nat} {l : List UInt8} {ys : List V} {bv : Value} (h : ReadK w b l ys bv []) : rAll 64 l = some ys := by
  rw [h.row]
  cases h : 64 - ys.length <;> simp [rAll]
end Go.Proofs.YtnpemegklndegaaDoor
