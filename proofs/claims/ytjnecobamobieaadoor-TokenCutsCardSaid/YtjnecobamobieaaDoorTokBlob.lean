/- Contract of token's blob: the token of a blob, its bytes written by pairs of digits, or none. Conditions: the text has two bytes or more, at most 4096; the library's errors are there. -/
import Derived.Test.YtjnecobamobieaaDoorTokCut0
import Derived.Test.YtjnecobamobieaaDoorTokWrote
namespace Go.Proofs.YtjnecobamobieaaDoor
open Go.RowKit
theorem BytesAt.set {w : World} {B g : Nat} {l : List UInt8} (h : BytesAt w B (some ⟨g, 0, none⟩) l) (k : Nat) (hk : k < l.length) (x : UInt8) : BytesAt (w.setCell ⟨g, k, none⟩ (.int .u8 x.toNat)) B (some ⟨g, 0, none⟩) (l.set k x) := fun _ => by
  obtain ⟨b, off, hA, hlt, hc⟩ := h (by omega)
  simp at hA
  obtain ⟨rfl, rfl⟩ := hA
  refine ⟨g, 0, rfl, hlt, fun j hj => ?_⟩
  rw [List.length_set] at hj
  have hj' := hc j hj
  rw [Nat.zero_add] at hj' ⊢
  by_cases e : j = k
  · subst e
    rw [World.cell?_setCell_same _ _ _ hj', List.getElem_set_self]
  · rw [World.cell?_setCell_other _ _ _ _ (by simp <;> omega), hj', List.getElem_set_ne (by omega)]
theorem set_done (done : List UInt8) (n : Nat) (x : UInt8) : (done ++ List.replicate (n + 1) 0).set done.length x = (done ++ [x]) ++ List.replicate n 0 := by
  rw [List.set_append_right _ _ (Nat.le_refl _)]
  simp [List.replicate_succ]
theorem frozen_later {w w' : World} {g j : Nat} (hb : Below w.heap.size w w') (hg : g < w.heap.size) (h : w.frozen? ⟨g, j, none⟩ = false) : w'.frozen? ⟨g, j, none⟩ = false := by
  unfold World.frozen? at h ⊢
  rw [hb.block g hg]
  exact h
theorem TBox.set {w : World} {b g k : Nat} {t : T} (h : TBox w b t) (hg : b < g) (x : Value) : TBox (w.setCell ⟨g, k, none⟩ x) b t := by
  have hb : Below g w (w.setCell ⟨g, k, none⟩ x) := (Below.refl g w).setCell (Nat.le_refl _) _
  exact (hb.block b hg).trans h
theorem made_u8 (n : Nat) : madeCells #[.int .u8 0] n = (u8s (List.replicate n 0)).toArray := by
  apply Array.ext'
  simp only [u8s, List.map_replicate]
  apply List.ext_getElem?
  intro j
  by_cases hj : j < n
  · simp [madeCells, hj, Nat.mod_one]
  · simp [madeCells, hj]
theorem make_bytes (n : Nat) (h : n ≤ 5000) (w : World) : (Instr.makeSlice 34 (.int .i64 (n : Int)) (.int .i64 (n : Int))).run Tryd.prog w = .ok (.slice (some ⟨w.heap.size, 0, none⟩) n n) (w.alloc (.cells (u8s (List.replicate n 0)).toArray 5)) := by
  obtain ⟨i0, hi, hz0, hz1, hz2⟩ := info_parts info5
  have := run_make (P := Tryd.prog) w 34 5 i0 _ Tryd.underlying34 hi hz0 .i64 .i64 n n (by omega) (by omega) (by rw [hz2]; omega) (by omega)
  rw [this, Int.toNat_natCast, hz1, Nat.mul_one]
  show Result.ok _ (w.alloc (.cells (madeCells #[.int .u8 0] n) 5)) = _
  rw [made_u8]
/-- Where the reading of pairs stands. -/
def HexAt (l done : List UInt8) (k : Nat) : Prop := hexP l = (hexP (l.drop (2 * k))).map fun p => done ++ p
theorem HexAt.start (l : List UInt8) : HexAt l [] 0 := by
  unfold HexAt
  rw [Nat.mul_zero, List.drop_zero]
  cases hexP l <;> rfl
theorem pair_at {l : List UInt8} {k : Nat} (h : 2 * k + 1 < l.length) : l.drop (2 * k) = l[2 * k] :: l[2 * k + 1] :: l.drop (2 * (k + 1)) := by
  rw [List.drop_eq_getElem_cons (by omega), List.drop_eq_getElem_cons h]
  rfl
theorem hexP_hx (c d : UInt8) (r : List UInt8) : hexP (c :: d :: r) = (hx c d 2).bind fun v => (hexP r).map fun p => UInt8.ofNat v :: p := by
  simp only [hexP, hx]
  cases hexV c with
  | none => rfl
  | some a => cases hexV d <;> rfl
theorem HexAt.next {l done : List UInt8} {k v : Nat} (h : HexAt l done k) (hk : 2 * k + 1 < l.length) (e : hx l[2 * k] l[2 * k + 1] 2 = some v) : HexAt l (done ++ [UInt8.ofNat v]) (k + 1) := by
  unfold HexAt at *
  rw [h, pair_at hk, hexP_hx, e]
  cases hexP (l.drop (2 * (k + 1))) <;> simp
theorem HexAt.bad {l done : List UInt8} {k : Nat} (h : HexAt l done k) (hk : 2 * k + 1 < l.length) (e : hx l[2 * k] l[2 * k + 1] 2 = none) : hexP l = none := by
  unfold HexAt at *
  rw [h, pair_at hk, hexP_hx, e]
  rfl
theorem HexAt.done {l done : List UInt8} {k : Nat} (h : HexAt l done k) (hk : l.length ≤ 2 * k) : hexP l = some done := by
  unfold HexAt at *
  rw [h, List.drop_eq_nil_of_le hk]
  simp [hexP]
theorem hx_byte {c d : UInt8} {v : Nat} (e : hx c d 2 = some v) : v < 256 := by
  simp only [hx, Option.bind_eq_some_iff, Option.map_eq_some_iff] at e
  obtain ⟨h, h1, g, h2, rfl⟩ := e
  have := hexV_lt h1
  have := hexV_lt h2
  omega
def blobO (l : List UInt8) : Option Tk := (blbR (l.drop 2)).map fun p => ⟨4, p.1, 0, p.2 + 2⟩
theorem blobO_some {l bs : List UInt8} (h1 : 39 ∈ l.drop 2) (h2 : (toQ (l.drop 2)).length % 2 = 0) (h3 : hexP (toQ (l.drop 2)) = some bs) : tup (blobO l) = .tuple #[.agg #[.int .i64 4, .string (str bs), .int .i64 0, .int .i64 0], .int .i64 (((toQ (l.drop 2)).length : Int) + 3)] := by
  unfold blobO
  rw [blbR_eq, if_pos ⟨h1, h2⟩, h3]
  rfl
theorem blobO_none {l : List UInt8} (h : ¬ (39 ∈ l.drop 2 ∧ (toQ (l.drop 2)).length % 2 = 0) ∨ hexP (toQ (l.drop 2)) = none) : tup (blobO l) = .tuple #[.agg #[.int .i64 0, .string ⟨#[]⟩, .int .i64 0, .int .i64 0], .int .i64 0] := by
  unfold blobO
  rw [blbR_eq]
  by_cases h1 : 39 ∈ l.drop 2 ∧ (toQ (l.drop 2)).length % 2 = 0
  · rcases h with h | h
    · exact absurd h1 h
    · rw [if_pos h1, h]
      rfl
  · rw [if_neg h1]
    rfl
theorem two_list (x : ByteArray) (k : Nat) (h : 2 * k + 1 < x.data.toList.length) : (x.extract (2 * k) (2 * k + 2)).data.toList = [x.data.toList[2 * k], x.data.toList[2 * k + 1]] := by
  rw [ext_list, pair_at h, show 2 * k + 2 - 2 * k = 2 by omega]
  rfl
set_option maxRecDepth 100000 in
set_option maxHeartbeats 2000000 in
theorem blob_any (s : ByteArray) (w : World) (hE : Env w) (hs : s.size ≤ 4096) (h2 : 2 ≤ s.size) : Calls Tryd.prog 21 #[.string s] w fun e w' => e = .returned (tup (blobO s.data.toList)) ∧ Below w.heap.size w w' := by
  have HC := Lib.hid (fun w => cutQ_any (s.extract 2 s.size) w (by rw [ByteArray.size_extract]; omega))
  rw [ext_end] at HC
  have HS := Lib.hid (fun bs h1 h2 h3 => blobO_some (l := s.data.toList) (bs := bs) h1 h2 h3)
  have HN := Lib.hid (fun h => blobO_none (l := s.data.toList) h)
  have hq : hasQ (s.data.toList.drop 2) = true ↔ 39 ∈ s.data.toList.drop 2 := decide_eq_true_iff
  have hlen : (s.data.toList.drop 2).length ≤ 4096 := by rw [List.length_drop, size_list]; omega
  have htq := tw_le (fun c => c != 39) (s.data.toList.drop 2)
  change (toQ (s.data.toList.drop 2)).length ≤ _ at htq
  have HQ := Lib.hid hq
  clear hq
  have bz := zbox w
  have hb0 := (Below.refl w.heap.size w).alloc (Nat.le_refl _) (.cells #[.int .i64 0, .string ⟨#[]⟩, .int .i64 0, .int .i64 0] 30)
  have hsz : (w.alloc (.cells #[.int .i64 0, .string ⟨#[]⟩, .int .i64 0, .int .i64 0] 30)).heap.size = w.heap.size + 1 := by simp
  generalize tup (blobO s.data.toList) = res at *
  generalize s.data.toList.drop 2 = L at *
  have HE := Lib.hid hE
  clear hE
  go_enter Tryd.func21, Tryd.ntmps21
  go_wp2_with fail
  generalize w.alloc (.cells #[.int .i64 0, .string ⟨#[]⟩, .int .i64 0, .int .i64 0] 30) = W1 at *
  refine (HC.out _).mono ?_
  rintro e w2 ⟨⟨x, y, rfl, hx⟩, b2⟩
  have B2 := bthen hb0 b2
  have bz2 := bz.later b2
  have hE2 := Lib.hid (HE.out.later B2)
  have hz2 : w.heap.size < w2.heap.size := by have := b2.size; omega
  clear bz hb0 hsz b2
  cases hh : hasQ L
  · have HD : Hid (res = _) := HN.out (Or.inl (fun h => by rw [HQ.out.2 h.1] at hh; cases hh))
    obtain ⟨c0, c1, c2, c3⟩ := bz2.zcells
    obtain ⟨f0, f1, f2, f3⟩ := bz2.free
    clear hx hh
    go_wp2_with fail
    exact bodyPost_ret (v := .tuple #[.agg #[.int .i64 0, .string ⟨#[]⟩, .int .i64 0, .int .i64 0], .int .i64 0]) (by simp [results, Tryd.results21, go_sem, c0, c1, c2, c3]) rfl ⟨by rw [HD.out], Below.set4 B2 (Nat.le_refl _) _ _ _ _⟩
  · have hxl := hx hh
    have hm := HQ.out.1 hh
    have hxs : x.size = (toQ L).length := by rw [← size_list, hxl]
    have hxz : x.size ≤ 4096 := by omega
    rcases Nat.mod_two_eq_zero_or_one x.size with he | ho
    · obtain ⟨m, hmm⟩ : ∃ m, x.size = 2 * m := ⟨x.size / 2, by omega⟩
      have HS2 : Hid (∀ bs, hexP (toQ L) = some bs → res = .tuple #[.agg #[.int .i64 4, .string (str bs), .int .i64 0, .int .i64 0], .int .i64 (2 * (m : Int) + 3)]) := fun bs h => by
        rw [HS.out bs hm (by omega) h, ← hxs, hmm]
        rfl
      have HN2 : Hid (hexP (toQ L) = none → res = _) := fun h => HN.out (Or.inr h)
      rw [← hxl] at HS2 HN2
      have e0 : ((x.size : Int).tmod 2 != 0) = false := by
        rw [hmm]
        simp
      have e1 : (x.size : Int).tdiv 2 = m := by
        rw [hmm]
        simp
      have hmk := make_bytes m (by omega) w2
      have hfr : Hid (∀ j, j < m → (w2.alloc (.cells (u8s (List.replicate m 0)).toArray 5)).frozen? ⟨w2.heap.size, j, none⟩ = false) := fun j _ => Lib.frozen_of_heap (heap_alloc_new w2 _) j
      have hby : Hid (BytesAt (w2.alloc (.cells (u8s (List.replicate m 0)).toArray 5)) (w2.alloc (.cells (u8s (List.replicate m 0)).toArray 5)).heap.size (some ⟨w2.heap.size, 0, none⟩) (List.replicate m 0)) := laid_at w2 _ _ _ rfl
      have hgz : w2.heap.size < (w2.alloc (.cells (u8s (List.replicate m 0)).toArray 5)).heap.size := by simp
      have hb3 := (Below.refl w2.heap.size w2).alloc (Nat.le_refl _) (.cells (u8s (List.replicate m 0)).toArray 5)
      have B3 := Lib.hid (bthen B2 hb3)
      have bz3 := Lib.hid (bz2.later hb3)
      clear hE2 bz2 B2 hb3 HS HN HC hxl hm hxs hx hh HQ he
      go_wp2_with fail
      generalize w2.alloc (.cells (u8s (List.replicate m 0)).toArray 5) = W3 at *
      generalize w2.heap.size = g at *
      go_loopw [33] (fun i wr => ∃ (k : Nat) (done : List UInt8), k ≤ m ∧ i = .int .i64 k ∧ done.length = k ∧ g < wr.heap.size ∧ Hid (HexAt x.data.toList done k) ∧ Hid (Below w.heap.size w wr) ∧ Hid (BytesAt wr wr.heap.size (some ⟨g, 0, none⟩) (done ++ List.replicate (m - k) 0)) ∧ Hid (∀ j, j < m → wr.frozen? ⟨g, j, none⟩ = false) ∧ Hid (TBox wr w.heap.size zT)) (fun i _ => m - (intOf i).toNat)
      case atStart => exact ⟨0, [], Nat.zero_le _, rfl, rfl, hgz, HexAt.start _, B3.out, hby.out, hfr.out, bz3.out⟩
      case round =>
        obtain ⟨k, done, hk, rfl, hdl, hgw, HA, HB, HY, HF, HZ⟩ := hrel
        clear hgz hby hfr bz3 B3
        by_cases hlt : k < m
        · have hkl : 2 * k + 1 < x.data.toList.length := by rw [size_list]; omega
          have HP := Lib.hid (fun w hE => parse16 (x.extract (2 * k) (2 * k + 2)) _ _ (two_list x k hkl) w hE)
          have HX1 := Lib.hid (fun v e => HA.out.next (v := v) hkl e)
          have HX2 := Lib.hid (fun e => HA.out.bad hkl e)
          generalize x.data.toList[2 * k] = c at *
          generalize x.data.toList[2 * k + 1] = d at *
          have z1 : IntKind.i64.wrap (2 * (k : Int)) = ((2 * k : Nat) : Int) := by rw [IntWalk.i64_in _ (by omega)]; rfl
          clear HA
          have HY0 : Hid ((done ++ List.replicate (m - k) 0)[k]? = some 0) := by
            show _ = _
            rw [List.getElem?_append_right (by omega), hdl, Nat.sub_self, List.getElem?_replicate]
            simp; omega
          have HL : Hid ((done ++ List.replicate (m - k) 0).length = m) := by
            show _ = _
            rw [List.length_append, List.length_replicate]; omega
          go_wp2_with fail
          refine (HP.out wr (HE.out.later HB.out)).mono ?_
          rintro e w5 ⟨⟨u, er, rfl, hu⟩, b5⟩
          have bz5 := HZ.out.later b5
          have B5 := Lib.hid (bthen HB.out b5)
          cases hh : hx c d 2 with
          | none =>
            rw [hh] at hu
            obtain ⟨N, rfl⟩ := hu
            have HD := Lib.hid (HN2.out (HX2.out hh))
            obtain ⟨c0, c1, c2, c3⟩ := bz5.zcells
            obtain ⟨f0, f1, f2, f3⟩ := bz5.free
            clear hh bz5 hdl
            go_wp2_with fail
            exact bodyPost_ret (v := .tuple #[.agg #[.int .i64 0, .string ⟨#[]⟩, .int .i64 0, .int .i64 0], .int .i64 0]) (by simp [results, Tryd.results21, go_sem, c0, c1, c2, c3]) rfl ⟨by rw [HD.out], Below.set4 B5.out (Nat.le_refl _) _ _ _ _⟩
          | some v =>
            rw [hh] at hu
            obtain ⟨rfl, rfl⟩ := hu
            have hv := hx_byte hh
            have HX := Lib.hid (HX1.out v hh)
            have hY5 := HY.out.later b5
            have hg5 : g < w5.heap.size := Nat.lt_of_lt_of_le hgw b5.size
            have f5 := frozen_later b5 hgw (HF.out k hlt)
            have ck : w5.cell? ⟨g, k, none⟩ = some (.int .u8 0) := by
              obtain ⟨b', off', hA, -, hc⟩ := hY5 (by rw [HL.out]; omega)
              simp at hA
              obtain ⟨rfl, rfl⟩ := hA
              have := hc k (by rw [HL.out]; exact hlt)
              rw [Nat.zero_add] at this
              rw [this]
              have h0 := HY0.out
              rw [List.getElem?_eq_getElem (by rw [HL.out]; exact hlt)] at h0
              rw [Option.some.inj h0]
              rfl
            have hw : IntKind.u8.wrap (v : Int) = v := by rw [IntKind.wrap_u8]; omega
            have HY6 : Hid (BytesAt (w5.setCell ⟨g, k, none⟩ (.int .u8 v)) w5.heap.size (some ⟨g, 0, none⟩) ((done ++ [UInt8.ofNat v]) ++ List.replicate (m - (k + 1)) 0)) := by
              have h := hY5.set k (by rw [HL.out]; exact hlt) (UInt8.ofNat v)
              rw [show m - k = m - (k + 1) + 1 by omega, ← hdl, set_done, hdl] at h
              rw [show ((UInt8.ofNat v).toNat : Int) = v by simp; omega] at h
              exact h
            have HF6 : Hid (∀ j, j < m → (w5.setCell ⟨g, k, none⟩ (.int .u8 v)).frozen? ⟨g, j, none⟩ = false) := fun j hj => by
              rw [World.frozen?_setCell]
              exact frozen_later b5 hgw (HF.out j hj)
            have HZ6 := Lib.hid (bz5.set hz2 (k := k) (.int .u8 v))
            have HB6 := Lib.hid (B5.out.setCell (Nat.le_of_lt hz2) (.int .u8 v) (p := ⟨g, k, none⟩))
            have HDL := Lib.hid hdl
            clear hh bz5 hY5 HY HF HZ HB hdl HY0
            go_wp2_with fail
            go_roundw
            case measure => simp [intOf]; omega
            case rel => exact ⟨k + 1, done ++ [UInt8.ofNat v], by omega, by go_num, by rw [List.length_append, HDL.out]; rfl, by simpa using hg5, HX.out, HB6.out, (by show BytesAt _ _ _ _; simpa using HY6.out), HF6.out, HZ6.out⟩
        · have hkm : k = m := by omega
          subst hkm
          have hY := HY.out
          rw [Nat.sub_self, List.replicate_zero, List.append_nil] at hY
          have hcv := conv_at (c := k) hY
          rw [hdl] at hcv
          have HD := Lib.hid (HS2.out done (HA.out.done (by rw [size_list]; omega)))
          have bz5 := HZ.out
          have B5 := HB.out
          obtain ⟨c0, c1, c2, c3⟩ := bz5.zcells
          obtain ⟨f0, f1, f2, f3⟩ := bz5.free
          clear hY hdl bz5 HY HF HA HZ
          go_wp2_with fail
          exact bodyPost_ret (v := .tuple #[.agg #[.int .i64 4, .string (str done), .int .i64 0, .int .i64 0], .int .i64 (2 * (k : Int) + 3)]) (by simp [results, Tryd.results21, go_sem, c0, c1, c2, c3]) rfl ⟨by rw [HD.out], Below.set4 B5 (Nat.le_refl _) _ _ _ _⟩
    · have HD : Hid (res = _) := HN.out (Or.inl (fun h => by omega))
      obtain ⟨c0, c1, c2, c3⟩ := bz2.zcells
      obtain ⟨f0, f1, f2, f3⟩ := bz2.free
      have e0 : ((x.size : Int).tmod 2 != 0) = true := by
        rw [Int.tmod_eq_emod_of_nonneg (by omega), bne_iff_ne]
        omega
      clear hx hh
      go_wp2_with fail
      exact bodyPost_ret (v := .tuple #[.agg #[.int .i64 0, .string ⟨#[]⟩, .int .i64 0, .int .i64 0], .int .i64 0]) (by simp [results, Tryd.results21, go_sem, c0, c1, c2, c3]) rfl ⟨by rw [HD.out], Below.set4 B2 (Nat.le_refl _) _ _ _ _⟩
end Go.Proofs.YtjnecobamobieaaDoor
