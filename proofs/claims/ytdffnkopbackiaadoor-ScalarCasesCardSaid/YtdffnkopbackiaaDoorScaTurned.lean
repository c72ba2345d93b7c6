/- Contract of scalar's turned: a text with the 26 letters from one on turned, byte for byte. Condition: the text is no longer than 3000. -/
import Derived.Test.YtdffnkopbackiaaDoorScaCall0
import Derived.Lib.ConvBytes
import Derived.Laws.BytesString
import Derived.Laws.Cells
namespace Go.Proofs.YtdffnkopbackiaaDoor
open Go.RowKit
def byteAt (s : ByteArray) (j : Nat) : Nat := (s.data.toList.getD j 0).toNat
def tog (f : Nat) (c : Nat) : Nat := if f ≤ c ∧ c < f + 26 then c ^^^ 32 else c
theorem byte_lt (s : ByteArray) (j : Nat) : byteAt s j < 256 := UInt8.toNat_lt _
theorem keep_cells {w : World} {g n k f : Nat} {B : Nat → Nat} (h : ∀ j, j < n → w.cell? ⟨g, j, none⟩ = some (.int .u8 (if j < k then tog f (B j) else B j : Nat))) (hk : tog f (B k) = B k) : ∀ j, j < n → w.cell? ⟨g, j, none⟩ = some (.int .u8 (if j < k + 1 then tog f (B j) else B j : Nat)) := by
  intro j hj
  rw [h j hj]
  by_cases e : j = k
  · subst e
    rw [if_neg (by omega), if_pos (by omega), hk]
  · by_cases e2 : j < k
    · rw [if_pos e2, if_pos (by omega)]
    · rw [if_neg e2, if_neg (by omega)]
theorem set_cells {w : World} {g n k f : Nat} {B : Nat → Nat} {x : Int} (h : ∀ j, j < n → w.cell? ⟨g, j, none⟩ = some (.int .u8 (if j < k then tog f (B j) else B j : Nat))) (hkn : k < n) (hk : x = (tog f (B k) : Nat)) : ∀ j, j < n → (w.setCell ⟨g, k, none⟩ (.int .u8 x)).cell? ⟨g, j, none⟩ = some (.int .u8 (if j < k + 1 then tog f (B j) else B j : Nat)) := by
  intro j hj
  by_cases e : j = k
  · subst e
    rw [if_pos (by omega), ← hk]
    exact World.cell?_setCell_same _ _ _ (h j hj)
  · rw [World.cell?_setCell_other _ _ _ _ (by simp <;> omega), h j hj]
    by_cases e2 : j < k
    · rw [if_pos e2, if_pos (by omega)]
    · rw [if_neg e2, if_neg (by omega)]
theorem bits_xor : ∀ b : Nat, b < 256 → bits .xor .u8 (b : Int) 32 = ((b ^^^ 32 : Nat) : Int) := by decide +kernel
theorem bytes_below (w : World) (s : ByteArray) : Below w.heap.size w (Lib.bytesWorld w 5 s) := ⟨rfl, rfl, rfl, by rw [Lib.bytesWorld_size]; omega, fun j hj => Lib.bytesWorld_at_old w 5 s j hj⟩
theorem bytes_free (w : World) (s : ByteArray) : ∀ j, j < s.size → (Lib.bytesWorld w 5 s).frozen? ⟨w.heap.size, j, none⟩ = false := by
  intro j hj
  unfold World.frozen?
  rw [Lib.bytesWorld_at_new]
  simp [Lib.bytesCells]
  omega
def turnedL (f : Nat) (s : ByteArray) : List Int := (List.range s.size).map fun j => ((tog f (byteAt s j) : Nat) : Int)
def turnedB (f : Nat) (s : ByteArray) : ByteArray := (turnedL f s).foldl (fun r n => r.push (UInt8.ofNat n.toNat)) ByteArray.empty
theorem back_str {w : World} {g : Nat} {s : ByteArray} {f n c : Nat} (hn : n = s.size) (h : ∀ j, j < n → w.cell? ⟨g, j, none⟩ = some (.int .u8 (if j < n then tog f (byteAt s j) else byteAt s j : Nat))) : (convert 79 9 (.slice (some ⟨g, 0, none⟩) n c)).run Tryd.prog w = .ok (.string (turnedB f s)) w := by
  rw [run_convert_bytes_string w 79 9 5 _ _ _ Tryd.underlying79 Tryd.underlying5 Tryd.underlying9]
  unfold turnedB
  refine run_bytesToString w _ n c (turnedL f s) ?_
  have hl := run_loadCells (P := Tryd.prog) (w := w) ⟨g, 0, none⟩ n (fun j => .int .u8 (tog f (byteAt s j) : Nat)) (fun j hj => by
    rw [WideShapes.add_plain, Nat.zero_add, h j hj, if_pos hj])
  rw [hl]
  unfold turnedL
  rw [← hn]
  simp [List.map_map]
set_option maxRecDepth 100000 in
set_option maxHeartbeats 2000000 in
theorem turned65 (s : ByteArray) (w : World) (hs : s.size ≤ 3000) : Calls Tryd.prog 58 #[.string s, .int .u8 65] w fun e w' => e = .returned (.string (turnedB 65 s)) ∧ Below w.heap.size w w' := by
  obtain ⟨n, hn⟩ : ∃ n, n = s.size := ⟨_, rfl⟩
  have hc := Lib.run_convert_string_bytes w 9 79 5 s Tryd.underlying9 Tryd.underlying79 Tryd.underlying5
  have hB0 := Lib.hid (bytes_below w s)
  have hC0 := Lib.hid (fun j hj => Lib.bytesWorld_cell w 5 s j hj)
  have hF0 := Lib.hid (bytes_free w s)
  have hZ0 := Lib.hid (Lib.bytesWorld_size w 5 s)
  rw [← hn] at hc hs hC0 hF0
  have HN := Lib.hid hn
  clear hn
  go_enter Tryd.func58, Tryd.ntmps58
  go_wp2_with fail
  clear hc
  generalize Lib.bytesWorld w 5 s = W0 at *
  generalize grownCap w n 0 5 = cap at *
  go_loopw [12] (fun i wr => ∃ k : Nat, k ≤ n ∧ i = .int .i64 k ∧ w.heap.size < wr.heap.size ∧ Hid (Below w.heap.size w wr) ∧ Hid (∀ j, j < n → wr.cell? ⟨w.heap.size, j, none⟩ = some (.int .u8 (if j < k then tog 65 (byteAt s j) else byteAt s j : Nat))) ∧ Hid (∀ j, j < n → wr.frozen? ⟨w.heap.size, j, none⟩ = false)) (fun i _ => n - (intOf i).toNat)
  case atStart => exact ⟨0, Nat.zero_le _, rfl, by rw [hZ0.out]; omega, hB0.out, fun j hj => by rw [hC0.out j hj]; rfl, hF0.out⟩
  case round =>
    obtain ⟨k, hk, rfl, hz, HB, HC, HF⟩ := hrel
    by_cases hlt : k < n
    · have c0 := HC.out k hlt
      rw [if_neg (by omega)] at c0
      have f0 := HF.out k hlt
      have hb := byte_lt s k
      have HT : Hid (tog 65 (byteAt s k) = if 65 ≤ byteAt s k ∧ byteAt s k < 65 + 26 then byteAt s k ^^^ 32 else byteAt s k) := rfl
      obtain ⟨b, hbb⟩ : ∃ b, b = byteAt s k := ⟨_, rfl⟩
      rw [← hbb] at c0 hb HT
      have HBB := Lib.hid hbb
      clear hbb
      by_cases h1 : 65 ≤ b
      · by_cases h2 : b < 91
        · go_wp2_with fail
          go_roundw
          case rel => exact ⟨k + 1, by omega, by go_num, by simpa using hz, HB.out.setCell (Nat.le_refl _) _, set_cells HC.out hlt (by rw [← HBB.out, HT.out, if_pos ⟨h1, by omega⟩]; exact bits_xor b hb), fun j hj => by rw [World.frozen?_setCell]; exact HF.out j hj⟩
          case measure => simp [intOf]; omega
        · go_wp2_with fail
          go_roundw
          case rel => exact ⟨k + 1, by omega, by go_num, hz, HB.out, keep_cells HC.out (by rw [← HBB.out, HT.out, if_neg (by omega)]), HF.out⟩
          case measure => simp [intOf]; omega
      · go_wp2_with fail
        go_roundw
        case rel => exact ⟨k + 1, by omega, by go_num, hz, HB.out, keep_cells HC.out (by rw [← HBB.out, HT.out, if_neg (by omega)]), HF.out⟩
        case measure => simp [intOf]; omega
    · obtain rfl : k = n := by omega
      have hback := back_str (c := cap) HN.out HC.out
      go_wp2_with fail
      go_ret
      exact ⟨rfl, HB.out⟩
set_option maxRecDepth 100000 in
set_option maxHeartbeats 2000000 in
theorem turned97 (s : ByteArray) (w : World) (hs : s.size ≤ 3000) : Calls Tryd.prog 58 #[.string s, .int .u8 97] w fun e w' => e = .returned (.string (turnedB 97 s)) ∧ Below w.heap.size w w' := by
  obtain ⟨n, hn⟩ : ∃ n, n = s.size := ⟨_, rfl⟩
  have hc := Lib.run_convert_string_bytes w 9 79 5 s Tryd.underlying9 Tryd.underlying79 Tryd.underlying5
  have hB0 := Lib.hid (bytes_below w s)
  have hC0 := Lib.hid (fun j hj => Lib.bytesWorld_cell w 5 s j hj)
  have hF0 := Lib.hid (bytes_free w s)
  have hZ0 := Lib.hid (Lib.bytesWorld_size w 5 s)
  rw [← hn] at hc hs hC0 hF0
  have HN := Lib.hid hn
  clear hn
  go_enter Tryd.func58, Tryd.ntmps58
  go_wp2_with fail
  clear hc
  generalize Lib.bytesWorld w 5 s = W0 at *
  generalize grownCap w n 0 5 = cap at *
  go_loopw [12] (fun i wr => ∃ k : Nat, k ≤ n ∧ i = .int .i64 k ∧ w.heap.size < wr.heap.size ∧ Hid (Below w.heap.size w wr) ∧ Hid (∀ j, j < n → wr.cell? ⟨w.heap.size, j, none⟩ = some (.int .u8 (if j < k then tog 97 (byteAt s j) else byteAt s j : Nat))) ∧ Hid (∀ j, j < n → wr.frozen? ⟨w.heap.size, j, none⟩ = false)) (fun i _ => n - (intOf i).toNat)
  case atStart => exact ⟨0, Nat.zero_le _, rfl, by rw [hZ0.out]; omega, hB0.out, fun j hj => by rw [hC0.out j hj]; rfl, hF0.out⟩
  case round =>
    obtain ⟨k, hk, rfl, hz, HB, HC, HF⟩ := hrel
    by_cases hlt : k < n
    · have c0 := HC.out k hlt
      rw [if_neg (by omega)] at c0
      have f0 := HF.out k hlt
      have hb := byte_lt s k
      have HT : Hid (tog 97 (byteAt s k) = if 97 ≤ byteAt s k ∧ byteAt s k < 97 + 26 then byteAt s k ^^^ 32 else byteAt s k) := rfl
      obtain ⟨b, hbb⟩ : ∃ b, b = byteAt s k := ⟨_, rfl⟩
      rw [← hbb] at c0 hb HT
      have HBB := Lib.hid hbb
      clear hbb
      by_cases h1 : 97 ≤ b
      · by_cases h2 : b < 123
        · go_wp2_with fail
          go_roundw
          case rel => exact ⟨k + 1, by omega, by go_num, by simpa using hz, HB.out.setCell (Nat.le_refl _) _, set_cells HC.out hlt (by rw [← HBB.out, HT.out, if_pos ⟨h1, by omega⟩]; exact bits_xor b hb), fun j hj => by rw [World.frozen?_setCell]; exact HF.out j hj⟩
          case measure => simp [intOf]; omega
        · go_wp2_with fail
          go_roundw
          case rel => exact ⟨k + 1, by omega, by go_num, hz, HB.out, keep_cells HC.out (by rw [← HBB.out, HT.out, if_neg (by omega)]), HF.out⟩
          case measure => simp [intOf]; omega
      · go_wp2_with fail
        go_roundw
        case rel => exact ⟨k + 1, by omega, by go_num, hz, HB.out, keep_cells HC.out (by rw [← HBB.out, HT.out, if_neg (by omega)]), HF.out⟩
        case measure => simp [intOf]; omega
    · obtain rfl : k = n := by omega
      have hback := back_str (c := cap) HN.out HC.out
      go_wp2_with fail
      go_ret
      exact ⟨rfl, HB.out⟩
end Go.Proofs.YtdffnkopbackiaaDoor
