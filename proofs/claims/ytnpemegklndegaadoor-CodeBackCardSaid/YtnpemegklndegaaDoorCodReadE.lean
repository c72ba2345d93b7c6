/- Contract of code's readEnded: a text out of bytes with its zeros guarded, and what is left behind it; or that there is none. Condition: no more than a million bytes. -/
import Derived.Test.YtnpemegklndegaaDoorCodRead
import Derived.Test.YtnpemegklndegaaDoorCodWTxt
import Derived.Lib.Bytealg
namespace Go.Proofs.YtnpemegklndegaaDoor
open Go.RowKit
def slLen : Value → Nat
  | .slice _ n _ => n
  | _ => 0
theorem indexByte_cases (r : List UInt8) : (Lib.indexByte r 0 = -1 ∧ ∀ x ∈ r, x ≠ 0) ∨ ∃ a t, r = a ++ 0 :: t ∧ (∀ x ∈ a, x ≠ 0) ∧ Lib.indexByte r 0 = a.length := by
  induction r with
  | nil => exact Or.inl ⟨rfl, by simp⟩
  | cons c r ih =>
    by_cases hc : c = 0
    · subst hc
      exact Or.inr ⟨[], r, rfl, by simp, by simp [Lib.indexByte]⟩
    · have hb : (c == 0) = false := by simpa using hc
      rcases ih with ⟨h1, h2⟩ | ⟨a, t, rfl, h2, h3⟩
      · refine Or.inl ⟨?_, ?_⟩
        · simp [Lib.indexByte, hb, h1]
        · intro x hx
          rcases List.mem_cons.1 hx with rfl | hx
          · exact hc
          · exact h2 x hx
      · refine Or.inr ⟨c :: a, t, rfl, ?_, ?_⟩
        · intro x hx
          rcases List.mem_cons.1 hx with rfl | hx
          · exact hc
          · exact h2 x hx
        · have : (((a.length : Nat) : Int) == -1) = false := by rw [beq_eq_false_iff_ne]; omega
          simp [Lib.indexByte, hb, h3, this]
theorem unesc_free {a : List UInt8} (h : ∀ x ∈ a, x ≠ 0) (t : List UInt8) : unesc (a ++ t) = (unesc t).map fun p => (a ++ p.1, p.2 + a.length) := by
  induction a with
  | nil => simp
  | cons c a ih =>
    have hc : c ≠ 0 := h c (by simp)
    rw [List.cons_append]
    conv => lhs; unfold unesc
    rw [if_neg hc, ih (fun x hx => h x (by simp [hx]))]
    cases unesc t with
    | none => rfl
    | some p => simp; omega
theorem unesc_none {r : List UInt8} (h : ∀ x ∈ r, x ≠ 0) : unesc r = none := by
  have := unesc_free h []
  rw [List.append_nil] at this
  rw [this]
  rfl
/-- How far a text was read: so many bytes are behind, of which so many bytes came. -/
def Half (l r acc : List UInt8) : Prop := ∃ k, r = l.drop k ∧ k ≤ l.length ∧ unesc l = (unesc r).map fun p => (acc ++ p.1, p.2 + k)
theorem Half.start (l : List UInt8) : Half l l [] := ⟨0, rfl, Nat.zero_le _, by cases unesc l <;> simp⟩
theorem Half.non {l r acc : List UInt8} (h : Half l r acc) (hr : unesc r = none) : unesc l = none := by
  obtain ⟨k, -, -, e⟩ := h
  rw [e, hr]
  rfl
theorem Half.done {l a t acc : List UInt8} (h : Half l (a ++ 0 :: 0 :: t) acc) (ha : ∀ x ∈ a, x ≠ 0) : ∃ n, unesc l = some (acc ++ a, n) ∧ l.drop n = t := by
  obtain ⟨k, hr, hk, e⟩ := h
  refine ⟨2 + a.length + k, ?_, ?_⟩
  · rw [e, unesc_free ha]
    simp [unesc]
  · rw [show 2 + a.length + k = k + (a.length + 2) by omega, ← List.drop_drop, ← hr, ← List.drop_drop]
    simp
theorem Half.more {l a t acc : List UInt8} (h : Half l (a ++ 0 :: 255 :: t) acc) (ha : ∀ x ∈ a, x ≠ 0) : Half l t (acc ++ a ++ [0]) := by
  obtain ⟨k, hr, hk, e⟩ := h
  have hl := congrArg List.length hr
  simp only [List.length_append, List.length_cons, List.length_drop] at hl
  refine ⟨k + (a.length + 2), ?_, by omega, ?_⟩
  · rw [← List.drop_drop, ← hr, ← List.drop_drop]
    simp
  · rw [e, unesc_free ha]
    simp only [unesc, show ¬ ((255 : UInt8) = 0) by decide, if_true, if_false]
    cases unesc t with
    | none => rfl
    | some p => simp; omega
theorem Half.bad {l a t acc : List UInt8} {d : UInt8} (h : Half l (a ++ 0 :: d :: t) acc) (ha : ∀ x ∈ a, x ≠ 0) (h0 : d ≠ 0) (h1 : d ≠ 255) : unesc l = none :=
  h.non (by rw [unesc_free ha]; simp [unesc, h0, h1])
theorem Half.le {l r acc : List UInt8} (h : Half l r acc) : r.length ≤ l.length := by
  obtain ⟨k, rfl, -, -⟩ := h
  simp
/-- bytes.IndexByte at bytes in memory. -/
theorem index_at (r : List UInt8) (b off c : Nat) (w : World) (hy : BytesAt w w.heap.size (some ⟨b, off, none⟩) r) :
    Calls Tryd.prog 49 #[.slice (some ⟨b, off, none⟩) r.length c, .int .u8 0] w fun e w' => e = .returned (.int .i64 (Lib.indexByte r 0)) ∧ w' = w := by
  have h := Tryd.bytes_IndexByte b off r.length c (r.map fun x => (x.toNat : Int)) 0 w (by simp) (fun i hi => by
    obtain ⟨b', off', hA, -, hc⟩ := hy (by omega)
    simp at hA
    obtain ⟨rfl, rfl⟩ := hA
    rw [hc i hi]
    simp [hi])
  have e : Lib.bytesOf (r.map fun x => (x.toNat : Int)) = r := by
    unfold Lib.bytesOf
    rw [List.map_map]
    conv => rhs; rw [← List.map_id r]
    apply List.map_congr_left
    intro x _
    simp
  rw [e] at h
  exact h
set_option maxRecDepth 100000 in
set_option maxHeartbeats 2000000 in
theorem readEnded_any (l : List UInt8) (b off c : Nat) (w : World) (hy : BytesAt w w.heap.size (some ⟨b, off, none⟩) l) (hc : l.length ≤ c) (hm : l.length ≤ 1000000) :
    Calls Tryd.prog 42 #[.slice (some ⟨b, off, none⟩) l.length c] w (GaveT w b (unesc l) l) := by
  have HL : Hid (LiesS w b (.slice (some ⟨b, off, none⟩) l.length c) l) := ⟨off, c, rfl, hc, hy⟩
  have H0 := Lib.hid (Wrote.refl (Own.nil w w.heap.size))
  clear hy hc
  generalize hv0 : Value.slice (some ⟨b, off, none⟩) l.length c = v0 at *
  clear hv0
  go_enter Tryd.func42, Tryd.ntmps42
  go_wp2_with fail
  go_loopw [0, 5] (fun bv sv wr => ∃ r acc : List UInt8, Hid (Half l r acc) ∧ acc.length + r.length ≤ 1000000 ∧ slLen bv = r.length ∧ Hid (LiesS w b bv r) ∧ Hid (Wrote w w.heap.size (.slice none 0 0) sv acc wr)) (fun bv _ _ => slLen bv)
  case atStart => exact ⟨l, [], Half.start l, by simpa using hm, by obtain ⟨off, c, h, -⟩ := HL.out; rw [h]; rfl, HL.out, H0.out⟩
  case round =>
    obtain ⟨r, acc, HH, hlen, hsl, HR, HW⟩ := hrel
    obtain ⟨off', c', rfl, hc', hy'⟩ := HR.out
    have hsz := HW.out.size
    have HB := Lib.hid HW.out.belowNil
    have hyr := hy'.later HB.out
    have hidx := index_at r b off' c' wr hyr
    rcases indexByte_cases r with ⟨h1, h2⟩ | ⟨a, t, rfl, h2, h3⟩
    · rw [h1] at hidx
      have HU := Lib.hid (HH.out.non (unesc_none h2))
      have HI := Lib.hid hidx
      clear h1 h2 hy' hyr hidx
      generalize r.length = n at *
      go_wp2_with (go_at_call 49; refine HI.out.mono ?_; rintro e w' ⟨rfl, rfl⟩)
      exact bodyPost_ret (v := .tuple #[.string ⟨#[]⟩, .slice none 0 0, .bool false]) (by simp [results, Tryd.results42, go_sem]) rfl ⟨HB.out, by rw [HU.out]⟩
    · rw [h3] at hidx
      clear h3
      cases t with
      | nil =>
        have HU := Lib.hid (HH.out.non (by rw [unesc_free h2]; rfl))
        have hn : (a ++ [0]).length = a.length + 1 := by simp
        rw [hn] at hidx hlen ⊢
        have HI := Lib.hid hidx
        clear h2 hy' hyr hidx hsl hn hc' HR HH
        generalize a.length = z at *
        have hz0 : ¬ ((z : Int) < 0) := by omega
        go_wp2_with (go_at_call 49; refine HI.out.mono ?_; rintro e w' ⟨rfl, rfl⟩)
        exact bodyPost_ret (v := .tuple #[.string ⟨#[]⟩, .slice none 0 0, .bool false]) (by simp [results, Tryd.results42, go_sem]) rfl ⟨HB.out, by rw [HU.out]⟩
      | cons d t =>
        have hn : (a ++ 0 :: d :: t).length = a.length + (t.length + 2) := by simp
        have hya : BytesAt wr wr.heap.size (some ⟨b, off', none⟩) a := by
          have := hyr.take a.length
          simpa using this
        obtain ⟨v2, w2, hr2, hW2⟩ := HW.out.app a (some ⟨b, off', none⟩) c' hya (by rw [hn] at hlen; omega) (Nat.le_refl _)
        have HB2 := Lib.hid hW2.belowNil
        have cd : w2.cell? ⟨b, off' + (a.length + 1), none⟩ = some (.int .u8 d.toNat) := by
          obtain ⟨b2, off2, hA, hlt, hcl⟩ := hy' (by rw [hn]; omega)
          simp at hA
          obtain ⟨rfl, rfl⟩ := hA
          have := (HB2.out.cell (p := ⟨b, off' + (a.length + 1), none⟩) hlt).trans (hcl (a.length + 1) (by rw [hn]; omega))
          rw [this]
          simp
        have hs1 := slice_to b off' (a ++ 0 :: d :: t).length c' a.length .i64 (by rw [hn] at hc'; omega)
        obtain ⟨o2, hs2, hy2⟩ := slice_from b off' (a ++ 0 :: d :: t).length c' (a.length + 2) .i64 (by rw [hn]; omega) hc'
        have hyt : BytesAt w w.heap.size (some ⟨b, o2, none⟩) t := by
          have := hy2 w _ _ rfl hy'
          rw [show (a ++ 0 :: d :: t).drop (a.length + 2) = t by rw [← List.drop_drop]; simp] at this
          exact this
        rw [hn] at hidx hlen hs1 hs2 hc' ⊢
        rw [show a.length + (t.length + 2) - (a.length + 2) = t.length by omega] at hs2
        have hct : t.length ≤ c' - (a.length + 2) := by omega
        have HLT : Hid (LiesS w b (.slice (some ⟨b, o2, none⟩) t.length (c' - (a.length + 2))) t) := ⟨o2, _, rfl, hct, hyt⟩
        have hs2' : ∀ w, (Instr.slice 26 (.slice (some ⟨b, off', none⟩) (a.length + (t.length + 2)) c') (some (.int .i64 ((a.length : Int) + 2))) none none).run Tryd.prog w = .ok (.slice (some ⟨b, o2, none⟩) t.length (c' - (a.length + 2))) w := hs2
        have HI := Lib.hid hidx
        have HW2 := Lib.hid hW2
        have hla : (acc ++ a).length = acc.length + a.length := by simp
        generalize c' - (a.length + 2) = c2 at *
        have HD : Hid (d = 0 → ∃ n, unesc l = some (acc ++ a, n) ∧ l.drop n = t) := fun h => by subst h; exact HH.out.done h2
        have HM : Hid (d = 255 → Half l t (acc ++ a ++ [0])) := fun h => by subst h; exact HH.out.more h2
        have HX : Hid (d ≠ 0 → d ≠ 255 → unesc l = none) := fun h0 h1 => HH.out.bad h2 h0 h1
        obtain ⟨A2, cc2, hv2, -, -, hyw2⟩ := hW2.own.bytes
        subst hv2
        have hconv := conv_at (c := cc2) hyw2
        clear h2 hy' hyr hya hidx hsl hn HR HH hyt hy2 hs2 hyw2 hW2
        have hrun1 : (Builtin.append_ #[26, 26] 26 #[u5, .slice (some ⟨b, off', none⟩) a.length c']).run Tryd.prog wr = .ok (.slice A2 (acc ++ a).length cc2) w2 := hr2
        clear hr2
        have ha0 := HW2.out.own
        rw [hla] at hrun1 hconv
        generalize hz : a.length = z at *
        generalize hq : t.length = q at *
        have p0 : (0 : Int) ≤ (z : Int) + 1 := by omega
        have p1 : ((z : Int) + 1).toNat = z + 1 := by omega
        have p2 : (z : Int) + 1 < ((z + (q + 2) : Nat) : Int) := by omega
        have p3 : ¬ ((z : Int) < 0) := by omega
        have p4 : ((z : Int) + 1 == (z : Int) + ((q : Int) + 2)) = false := by rw [beq_eq_false_iff_ne]; omega
        by_cases hd0 : d = 0
        · obtain ⟨n, hn1, hn2⟩ := HD.out hd0
          have HU := Lib.hid hn1
          have HN2 := Lib.hid hn2
          subst hd0
          simp only [show ((0 : UInt8).toNat : Int) = 0 from rfl] at cd
          clear HD HM HX hn1 hn2
          go_wp2_with (first | (go_at_call 49; refine HI.out.mono ?_; rintro e w' ⟨rfl, rfl⟩) | (at_builtin; refine Lib.wpList_append_run_sl _ rfl _ _ 26 rfl _ _ rfl rfl hrun1 ?_))
          refine bodyPost_ret (v := .tuple #[.string ⟨(acc ++ a).toArray⟩, .slice (some ⟨b, o2, none⟩) q c2, .bool true]) (by simp [results, Tryd.results42, go_sem]) rfl ⟨HB2.out, ?_⟩
          rw [HU.out]
          exact ⟨_, rfl, by rw [HN2.out]; exact HLT.out.later HB2.out⟩
        · by_cases hd1 : d = 255
          · have HM' := Lib.hid (HM.out hd1)
            subst hd1
            simp only [show ((255 : UInt8).toNat : Int) = 255 from rfl] at cd
            obtain ⟨v3, w3, hr3, hW3⟩ := HW2.out.one 0 (by rw [hla]; omega) (Nat.le_refl _)
            have HW3 := Lib.hid hW3
            rw [hla] at hr3
            simp only [show ((0 : UInt8).toNat : Int) = 0 from rfl] at hr3
            have hl3 : (acc ++ a ++ [0]).length = acc.length + z + 1 := by simp [hz]; omega
            clear HD HM HX hW3 hd0
            go_wp2_with (first | (go_at_call 49; refine HI.out.mono ?_; rintro e w' ⟨rfl, rfl⟩) | (at_builtin; refine Lib.wpList_append_run_sl _ rfl _ _ 26 rfl _ _ rfl rfl hrun1 ?_) | (at_builtin; refine Lib.wpList_append_run_sl _ rfl _ _ 26 rfl _ _ rfl rfl hr3 ?_))
            go_roundw
            case rel => exact ⟨t, acc ++ a ++ [0], HM'.out, by rw [hl3, hq]; omega, hq.symm, HLT.out, HW3.out⟩
            case measure => simp [slLen]; omega
          · have HU := Lib.hid (HX.out hd0 hd1)
            have e0 : ((d.toNat : Int) == 0) = false := by
              rw [beq_eq_false_iff_ne]
              intro h
              exact hd0 (UInt8.toNat_inj.1 (by show d.toNat = 0; omega))
            have e1 : ((d.toNat : Int) == 255) = false := by
              rw [beq_eq_false_iff_ne]
              intro h
              exact hd1 (UInt8.toNat_inj.1 (by show d.toNat = 255; omega))
            clear HD HM HX hd0 hd1
            generalize (d.toNat : Int) = dn at *
            go_wp2_with (first | (go_at_call 49; refine HI.out.mono ?_; rintro e w' ⟨rfl, rfl⟩) | (at_builtin; refine Lib.wpList_append_run_sl _ rfl _ _ 26 rfl _ _ rfl rfl hrun1 ?_))
            exact bodyPost_ret (v := .tuple #[.string ⟨#[]⟩, .slice none 0 0, .bool false]) (by simp [results, Tryd.results42, go_sem]) rfl ⟨HB2.out, by rw [HU.out]⟩
end Go.Proofs.YtnpemegklndegaaDoor
