/- The laws' own functions live (it answers true) and big (whether rows are too great); bytes as a text. Conditions: the library's one variable that is read is there; no list, row or text longer than 2 to the 47. -/
import Derived.Test.YtnpemegklndegaaDoorCodEnc
import Derived.Test.YtnpemegklndegaaDoorCodHash
import Derived.Test.YtnpemegklndegaaDoorFew
import Derived.Laws.IdiomStrings
import Derived.BigQuiet
namespace Go.Proofs.YtnpemegklndegaaDoor
open Go.RowKit
theorem conv_at {w : World} {B : Nat} {A : Option Addr} {c : Nat} {l : List UInt8} (hr : BytesAt w B A l) : (convert 26 9 (.slice A l.length c)).run Tryd.prog w = .ok (.string ⟨l.toArray⟩) w := by
  rcases Nat.eq_zero_or_pos l.length with h0 | h0
  · have := List.eq_nil_of_length_eq_zero h0
    subst this
    cases A with
    | none =>
      rw [run_convert_bytes_string w 26 9 5 _ _ _ Tryd.underlying26 Tryd.underlying5 Tryd.underlying9]
      simp [Conv.bytesToString]
      rfl
    | some a => exact run_convert_bytes_back w 26 9 5 a c [] Tryd.underlying26 Tryd.underlying5 Tryd.underlying9 (fun j hj => by simp at hj)
  · obtain ⟨b, off, rfl, -, hc⟩ := hr h0
    exact run_convert_bytes_back w 26 9 5 ⟨b, off, none⟩ c l Tryd.underlying26 Tryd.underlying5 Tryd.underlying9 (fun j hj => by rw [WideShapes.add_plain]; exact hc j hj)
set_option maxHeartbeats 400000 in
theorem big_any (rs : List R) (A : Option Addr) (c : Nat) (w : World) (hr : RowsAt w w.heap.size A rs) (hm : rs.length ≤ 140737488355328) (hs : Small rs) :
    Calls Tryd.prog 10 #[.slice A rs.length c] w fun e w' => e = .returned (.bool (!few rs 20000)) ∧ Below w.heap.size w w' := by
  have h := few_any rs A c 20000 w hr hm hs (by decide) (by decide)
  generalize few rs 20000 = f at *
  clear hr hs hm
  go_enter Tryd.func10, Tryd.ntmps10
  go_wp2_with (go_at_call 25; refine h.mono ?_; rintro e w1 ⟨rfl, hb1⟩)
  go_ret
  exact ⟨rfl, hb1⟩
theorem few_rowW {xs : List V} (h : rowN xs ≤ 20000) : rowW xs ≤ 1000000 ∧ xs.length ≤ 20000 := by
  have key : ∀ l : List V, rowW l ≤ 9 * rowN l ∧ l.length ≤ rowN l := by
    intro l
    induction l with
    | nil => simp [rowW, rowN]
    | cons v l ih => simp only [rowW, rowN, List.map_cons, List.sum_cons, List.length_cons] at ih ⊢; omega
  have := key xs
  omega
theorem mkInt (n : Int) (w : World) : Calls Tryd.prog 23 #[.int .i64 n] w fun e w' => e = .returned (.agg #[.int .i64 2, .int .i64 n, .string ⟨#[]⟩]) ∧ Below w.heap.size w w' := by
  go_enter Tryd.func23, Tryd.ntmps23
  go_wp2
  exact bodyPost_ret (v := .agg #[.int .i64 2, .int .i64 n, .string ⟨#[]⟩]) (by simp [results, Tryd.results23, go_sem]) rfl ⟨rfl, (Below.refl _ w).alloc (Nat.le_refl _) _⟩
theorem mkText (s : ByteArray) (w : World) : Calls Tryd.prog 24 #[.string s] w fun e w' => e = .returned (.agg #[.int .i64 3, .int .i64 0, .string s]) ∧ Below w.heap.size w w' := by
  go_enter Tryd.func24, Tryd.ntmps24
  go_wp2
  exact bodyPost_ret (v := .agg #[.int .i64 3, .int .i64 0, .string s]) (by simp [results, Tryd.results24, go_sem]) rfl ⟨rfl, (Below.refl _ w).alloc (Nat.le_refl _) _⟩
def liveRow : List V := [⟨2, 1, ⟨#[]⟩⟩, ⟨0, 0, ⟨#[]⟩⟩]
def liveRow2 : List V := [⟨3, 0, ⟨#[97]⟩⟩]
theorem live_chk : chkR liveRow = 0 := by
  have h : allOk liveRow = true := by simp [allOk, liveRow, may0, may2]
  unfold chkR
  rw [if_pos h]
  rfl
theorem live_chk2 : chkR liveRow2 = 0 := by
  have h : allOk liveRow2 = true := by simp [allOk, liveRow2, may3]
  unfold chkR
  rw [if_pos h]
  rfl
theorem live_enc : encL false liveRow = [2, 2, 0, 0, 0, 0, 0, 0, 0, 1, 0] := by
  unfold encL
  rw [if_pos live_chk]
  decide
theorem live_key : encL true liveRow = [2, 128, 0, 0, 0, 0, 0, 0, 1, 0] := by
  unfold encL
  rw [if_pos live_chk]
  decide
theorem live_key2 : encL true liveRow2 = [3, 97, 0, 0] := by
  unfold encL
  rw [if_pos live_chk2]
  decide
theorem liveRow_at (w : World) : RowAt (w.alloc (.cells #[.int .i64 2, .int .i64 1, .string ⟨#[]⟩, .int .i64 0, .int .i64 0, .string ⟨#[]⟩] 43)) (w.heap.size + 1) (some ⟨w.heap.size, 0, none⟩) liveRow := fun _ => by
  have hn : (w.alloc (.cells #[.int .i64 2, .int .i64 1, .string ⟨#[]⟩, .int .i64 0, .int .i64 0, .string ⟨#[]⟩] 43)).heap[w.heap.size]? = some (.cells _ 43 (0, 0)) := heap_alloc_new w _
  refine ⟨w.heap.size, 0, rfl, Nat.lt_succ_self _, fun j hj => ?_⟩
  match j, hj with
  | 0, _ => exact ⟨by rw [Lib.cell_of_heap hn]; rfl, by rw [Lib.cell_of_heap hn]; rfl, by rw [Lib.cell_of_heap hn]; rfl⟩
  | 1, _ => exact ⟨by rw [Lib.cell_of_heap hn]; rfl, by rw [Lib.cell_of_heap hn]; rfl, by rw [Lib.cell_of_heap hn]; rfl⟩
theorem liveRow2_at (w : World) : RowAt (w.alloc (.cells #[.int .i64 3, .int .i64 0, .string ⟨#[97]⟩] 43)) (w.heap.size + 1) (some ⟨w.heap.size, 0, none⟩) liveRow2 := fun _ => by
  have hn : (w.alloc (.cells #[.int .i64 3, .int .i64 0, .string ⟨#[97]⟩] 43)).heap[w.heap.size]? = some (.cells _ 43 (0, 0)) := heap_alloc_new w _
  refine ⟨w.heap.size, 0, rfl, Nat.lt_succ_self _, fun j hj => ?_⟩
  match j, hj with
  | 0, _ => exact ⟨by rw [Lib.cell_of_heap hn]; rfl, by rw [Lib.cell_of_heap hn]; rfl, by rw [Lib.cell_of_heap hn]; rfl⟩
/-- What was given, taken on. -/
theorem Gave.take {w : World} {l : List UInt8} {n : Int} {e : Ending} {w' : World} (h : Gave w l n e w') : ∃ A c, e = .returned (.tuple #[.slice A l.length c, .int .i64 n]) ∧ BytesAt w' w'.heap.size A l ∧ Below w.heap.size w w' ∧ l.length ≤ c ∧ c ≤ maxLen := by
  obtain ⟨v, rfl, ho, hb⟩ := h
  obtain ⟨A, c, rfl, hc, hm, hy⟩ := ho.bytes
  exact ⟨A, c, rfl, hy, hb, hc, hm⟩
set_option maxRecDepth 100000 in
set_option maxHeartbeats 1000000 in
theorem live_any (w : World) (hE : Env w) :
    Calls Tryd.prog 9 #[] w fun e w' => e = .returned (.bool true) ∧ Below w.heap.size w w' := by
  have HE := Lib.hid hE
  have hsz := hE.size
  have HF : Hid (∀ v ∈ liveRow, v.fits) := by intro v hv; simp [liveRow] at hv; rcases hv with rfl | rfl <;> refine ⟨by decide, by decide, by decide, by decide⟩
  have HF2 : Hid (∀ v ∈ liveRow2, v.fits) := by intro v hv; simp [liveRow2] at hv; subst hv; refine ⟨by decide, by decide, by decide, by decide⟩
  clear hE
  go_enter Tryd.func9, Tryd.ntmps9
  go_wp2_with fail
  refine (mkInt _ _).mono ?_
  rintro e w1 ⟨rfl, b1⟩
  have HR := Lib.hid (liveRow_at w1)
  have B1 := b1.alloc b1.size (.cells #[.int .i64 2, .int .i64 1, .string ⟨#[]⟩, .int .i64 0, .int .i64 0, .string ⟨#[]⟩] 43)
  have hz1 : (w1.alloc (.cells #[.int .i64 2, .int .i64 1, .string ⟨#[]⟩, .int .i64 0, .int .i64 0, .string ⟨#[]⟩] 43)).heap.size = w1.heap.size + 1 := by simp
  go_wp2_with fail
  generalize w1.alloc (.cells #[.int .i64 2, .int .i64 1, .string ⟨#[]⟩, .int .i64 0, .int .i64 0, .string ⟨#[]⟩] 43) = W1 at *
  rw [← hz1] at HR
  have h1 := encode_any liveRow _ 2 W1 HR.out HF.out (by decide) (by decide) (HE.out.below B1 hsz)
  refine h1.mono ?_
  intro e w2 h2
  rw [live_chk, live_enc] at h2
  obtain ⟨A2, c2, rfl, y2, b2, -, -⟩ := h2.take
  have HR2 := Lib.hid (HR.out.later b2)
  have B2 := bthen B1 b2
  clear h1 h2 b1
  go_wp2_with fail
  have h1 := key_any liveRow _ 2 w2 HR2.out HF.out (by decide) (by decide) (HE.out.below B2 hsz)
  refine h1.mono ?_
  intro e w3 h2
  rw [live_chk, live_key] at h2
  obtain ⟨A3, c3, rfl, y3, b3, -, -⟩ := h2.take
  have B3 := bthen B2 b3
  have y2' := y2.later b3
  clear h1 h2 b2
  go_wp2_with fail
  refine (mkText _ _).mono ?_
  rintro e w4 ⟨rfl, b4⟩
  have HR3 := Lib.hid (liveRow2_at w4)
  have b4' := b4.alloc b4.size (.cells #[.int .i64 3, .int .i64 0, .string ⟨#[97]⟩] 43)
  have hz4 : (w4.alloc (.cells #[.int .i64 3, .int .i64 0, .string ⟨#[97]⟩] 43)).heap.size = w4.heap.size + 1 := by simp
  go_wp2_with fail
  generalize w4.alloc (.cells #[.int .i64 3, .int .i64 0, .string ⟨#[97]⟩] 43) = W4 at *
  rw [← hz4] at HR3
  have B4 := bthen B3 b4'
  have y2'' := y2'.later b4'
  have y3' := y3.later b4'
  have h1 := key_any liveRow2 _ 1 W4 HR3.out HF2.out (by decide) (by decide) (HE.out.below B4 hsz)
  refine h1.mono ?_
  intro e w5 h2
  rw [live_chk2, live_key2] at h2
  obtain ⟨A5, c5, rfl, y5, b5, -, -⟩ := h2.take
  have B5 := bthen B4 b5
  have k2 : (convert 26 9 (.slice A2 11 c2)).run Tryd.prog w5 = .ok (.string ⟨#[2, 2, 0, 0, 0, 0, 0, 0, 0, 1, 0]⟩) w5 := conv_at (c := c2) (y2''.later b5)
  have k3 : (convert 26 9 (.slice A3 10 c3)).run Tryd.prog w5 = .ok (.string ⟨#[2, 128, 0, 0, 0, 0, 0, 0, 1, 0]⟩) w5 := conv_at (c := c3) (y3'.later b5)
  have k5 : (convert 26 9 (.slice A5 4 c5)).run Tryd.prog w5 = .ok (.string ⟨#[3, 97, 0, 0]⟩) w5 := conv_at (c := c5) y5
  have HH : Hid (Calls Tryd.prog 20 #[.slice none 0 0] w5 fun e w' => e = .returned (.int .u64 14695981039346656037) ∧ Below w5.heap.size w5 w') := hash_any [] none 0 w5 (BytesAt.nil _ _ _) (by decide)
  clear h1 h2 y2 y2' y2'' y3 y3' y5
  go_wp2_with fail
  refine HH.out.mono ?_
  rintro e w6 ⟨rfl, b6⟩
  go_wp2_with fail
  go_ret
  exact ⟨rfl, bthen B5 b6⟩
end Go.Proofs.YtnpemegklndegaaDoor
