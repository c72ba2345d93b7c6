import Derived.Test.YtkigddankkoahaaGreatDoorQ46
import Derived.Test.YtkigddankkoahaaGreatDoorQ32
import Derived.Test.YtkigddankkoahaaGreatDoorQ41
import Derived.Test.YtkigddankkoahaaGreatDoorQ40
set_option maxRecDepth 100000
set_option maxHeartbeats 32000000
set_option linter.unusedSimpArgs false
set_option linter.unusedVariables false
namespace Go.Proofs.YtkigddankkoahaaGreatDoor
open Go.RowKit
theorem cmp_made {ks : List Ky} {rs : List BV.R} {w0 w3 w4 w5 : World} {K A : Option Addr} {kc' c n b g1 g2 : Nat} (hk : KysIn w0 w0.heap.size K ks) (hr : BV.RowsAt w3 w3.heap.size A rs) (hl : ∀ r ∈ rs, ks.length ≤ r.xs.length) (hm : ks.length ≤ 2000) (hn : n = rs.length) (hn2 : n ≤ 1000000) (h03 : Below w0.heap.size w0 w3) (h34 : Below w3.heap.size w3 w4) (h45 : Below w4.heap.size w4 w5) (hb : b = w4.heap.size) (c1 : w4.cell? ⟨g1, 0, none⟩ = some (.slice K ks.length kc')) (c2 : w4.cell? ⟨g2, 0, none⟩ = some (.slice A n c)) (hg1 : g1 < w4.heap.size) (hg2 : g2 < w4.heap.size) :
  CmpC w5 b (fun x => 0 ≤ x ∧ x < ((rs.map BV.R.xs).length : Int)) (byC ks (rs.map BV.R.xs)) (.pointer (some ⟨g1, 0, none⟩)) (.pointer (some ⟨g2, 0, none⟩)) := by
 intro l W hS x y hx hy
 subst hb
 have hbW := hS.bel h45.size
 have h4W : Below w4.heap.size w4 W := ⟨hbW.os.trans h45.os, hbW.tape.trans h45.tape, hbW.output.trans h45.output, Nat.le_trans h45.size hbW.size, fun k hk => (hbW.block k hk).trans (h45.block k hk)⟩
 have h3W := bthen h34 h4W
 have h0W := bthen h03 h3W
 rw [List.length_map] at hx hy
 obtain ⟨x', rfl⟩ : ∃ x' : Nat, x = x' := ⟨x.toNat, by omega⟩
 obtain ⟨y', rfl⟩ : ∃ y' : Nat, y = y' := ⟨y.toNat, by omega⟩
 have hx' : x' < rs.length := by omega
 have hy' : y' < rs.length := by omega
 have h := clo_any ks rs W g1 g2 K A kc' c n ((hk.below h0W).mono h0W.size) (rowsL hr h3W) hl hm ((h4W.cell (p := ⟨g1, 0, none⟩) hg1).trans c1) ((h4W.cell (p := ⟨g2, 0, none⟩) hg2).trans c2) (Nat.lt_of_lt_of_le hg1 h4W.size) (Nat.lt_of_lt_of_le hg2 h4W.size) hn hn2 x' y' hx' hy'
 rw [byC_at (by rw [List.length_map]; exact hx') (by rw [List.length_map]; exact hy'), List.getElem_map, List.getElem_map]
 exact h
theorem sort_any (ks : List Ky) (rs : List BV.R) (S : Nat → Prop) (w : World) (K A : Option Addr) (kc' ca : Nat) (hk : KysAt S w K ks) (ha : BV.RowsAt w w.heap.size A rs) (hE : SC.Env w) (hla : rs.length ≤ 100000) (hlk : ks.length ≤ 2000) (hw : ∀ r ∈ rs, r.xs.length ≤ 100000) (hf : ∀ r ∈ rs, ∀ k ∈ ks, k.e.fit deedP r.xs) :
  Calls Tryz.prog 19 #[.slice A rs.length ca, .slice K ks.length kc'] w (SortT ks (rs.map BV.R.xs) (firstE ((rs.map BV.R.xs).map (projE (ks.map Ky.e)))) w) := by
 obtain ⟨n, hn⟩ : ∃ n, n = rs.length := ⟨_, rfl⟩
 obtain ⟨m, hmk⟩ : ∃ m, m = ks.length := ⟨_, rfl⟩
 obtain ⟨es, hes⟩ : ∃ es, es = ks.map Ky.e := ⟨_, rfl⟩
 have hesl : es.length = m := by rw [hes, List.length_map, hmk]
 obtain ⟨l, hl⟩ : ∃ l, l = rs.map BV.R.xs := ⟨_, rfl⟩
 have hll : l.length = n := by rw [hl, List.length_map, hn]
 obtain ⟨L, hL⟩ : ∃ L, L = l.map (projV es) := ⟨_, rfl⟩
 have hLl : L.length = n := by rw [hL, List.length_map, hll]
 obtain ⟨er, her⟩ : ∃ er, er = firstE (l.map (projE es)) := ⟨_, rfl⟩
 rw [← hl, ← hes, ← her]
 have HK := Lib.hid hk
 have HKI := Lib.hid hk.inn
 have HA := Lib.hid ha
 have HLR : Hid (∀ k (h : k < n), ∃ (h1 : k < rs.length) (h2 : k < l.length), rs[k].xs = l[k] ∧ rs[k].xs.length ≤ 100000) := Lib.hid fun k h => ⟨by omega, by omega, by subst hl; simp, hw _ (List.getElem_mem _)⟩
 have HEM : Hid (∀ k (h : k < m), ∃ (h1 : k < ks.length) (h2 : k < es.length), es[k] = ks[k].e ∧ es.take (k + 1) = es.take k ++ [es[k]]) := Lib.hid fun k h => ⟨by omega, by omega, by subst hes; simp, List.take_succ_eq_append_getElem (by omega)⟩
 have HPR := Lib.hid (fun (W : World) (hb : Below w.heap.size w W) (B : Option Addr) (d : Nat) (hs : Sub (fun _ => True) W (op1 [] es) B d) => project_any rs A B ca d es v0 (fun _ => True) W (rowsL ha hb) (sub_list hs) (hE.later hb) hla (by omega) hw (fun r hr e he => by
  rw [hes] at he
  obtain ⟨k, hk1, rfl⟩ := List.mem_map.1 he
  exact hf r hr k hk1))
 rw [← hl, ← her, ← hL] at HPR
 have HNO : Hid (∀ W, ¬ er = 0 → Hid (Below w.heap.size w W) → SortT ks l er w (.returned (.tuple #[.slice none 0 0, .int .i64 er])) W) := Lib.hid fun W h0 hb => ⟨[], Lib.hid (rowsE_no h0 hb), Lib.hid fun h => absurd h h0⟩
 have HYES : Hid (∀ Z v W, er = 0 → Hid (Z.Perm (plN n) ∧ Z.Pairwise (TO (byC ks L))) → Hid (OwnR W w.heap.size v (pick l Z)) → Hid (Below w.heap.size w W) → SortT ks l er w (.returned (.tuple #[v, .int .i64 0])) W) := Lib.hid fun Z v W h0 hz ho hb => ⟨pick l Z, Lib.hid (by rw [h0]; exact rowsE_yes ho.out hb), Lib.hid fun _ => ⟨Z, by rw [hll]; exact hz.out.1, by rw [← hes, ← hL]; exact hz.out.2, rfl⟩⟩
 have HLW : Hid (∀ r ∈ L, ks.length ≤ r.length) := Lib.hid fun r hr => by
  rw [hL] at hr
  obtain ⟨x, -, rfl⟩ := List.mem_map.1 hr
  rw [projV_len]
  omega
 have HLL := Lib.hid hLl
 have HL2 := Lib.hid hll
 have HES := Lib.hid hesl
 have HMK := Lib.hid hmk
 have HN := Lib.hid hn
 rw [← hn] at hla ⊢
 rw [← hmk] at hlk ⊢
 obtain ⟨W1, hW1⟩ : ∃ W1 : World, W1 = w.alloc (.cells #[.slice K m kc'] 54) := ⟨_, rfl⟩
 have hb1 : Below w.heap.size w W1 := by rw [hW1]; exact (Below.refl _ _).alloc (Nat.le_refl _) _
 have hz1 : W1.heap.size = w.heap.size + 1 := by rw [hW1]; simp
 have C1 : Hid (W1.cell? ⟨w.heap.size, 0, none⟩ = some (.slice K m kc')) := Lib.hid (by rw [hW1, Lib.cell_of_heap (heap_alloc_new w _)]; rfl)
 have HW1 := Lib.hid hW1
 have HB1 := Lib.hid hb1
 have HZ1 := Lib.hid hz1
 clear hk ha hE hw hf hn hmk hes hesl hl hll hL hLl her hW1 hb1 hz1
 go_enter Tryz.func19, Tryz.ntmps19
 have c1 := C1.out
 go_wp2_with (rw [← HW1.out])
 clear c1
 go_loopw [18, 6] (fun iv lv wr => ∃ k : Nat, k ≤ m ∧ iv = .int .i64 (k : Int) ∧ Hid (OwnL wr W1.heap.size (fun _ => True) (es.take k) false lv) ∧ Hid (Below W1.heap.size W1 wr)) (fun iv _ _ => m - (intOf iv).toNat)
 case atStart => exact ⟨0, Nat.zero_le _, rfl, Lib.hid (by rw [List.take_zero]; exact ownL_nilE _ _ _), Lib.hid (Below.refl _ _)⟩
 case round =>
  obtain ⟨k, hk, rfl, HO, HB⟩ := hrel
  by_cases hlt : k < m
  ·obtain ⟨h1, h2, h3, h4⟩ := HEM.out k hlt
   obtain ⟨gk, ok, rfl, hgk, hck⟩ := HK.out (by omega)
   obtain ⟨A', c', hkc, hks⟩ := hck k h1
   have hbw := bthen HB1.out HB.out
   obtain ⟨i0, i1, i2, i3, i4, i5, i6, i7⟩ := hkc.same (hbw.block gk hgk)
   obtain ⟨Wa, Wb, hWa, hWb, b1, b2, hz, hb1, hb2⟩ := made8 wr (.string (str ks[k].e.op)) (.int .i64 ks[k].e.v.k) (.int .i64 ks[k].e.v.i) (.string (str ks[k].e.v.s)) (.string (str ks[k].e.tb)) (.string (str ks[k].e.nm)) (.slice A' ks[k].e.l.length c') (.bool ks[k].desc)
   obtain ⟨f10, f11, f12, f13, f14, f15, f16, f17⟩ := b1.free
   obtain ⟨y10, y11, y12, y13, y14, y15, y16, y17⟩ := b2.cells
   obtain ⟨p10, p11, p12, p13, p14, p15, p16, p17⟩ := b1.cells
   obtain ⟨v', w', hrun, HO', HB'⟩ := es_app HB1.out (by have := HZ1.out; omega) HB.out hb2 HO.out hks (by rw [List.length_take]; omega)
   rw [← h3, ← h4] at HO'
   have HWA := Lib.hid hWa
   have HWB := Lib.hid hWb
   have hkz : (k : Int) < (m : Int) := by omega
   generalize str ks[k].e.op = s0 at *
   generalize ks[k].e.v.k = s1 at *
   generalize ks[k].e.v.i = s2 at *
   generalize str ks[k].e.v.s = s3 at *
   generalize str ks[k].e.tb = s4 at *
   generalize str ks[k].e.nm = s5 at *
   generalize ks[k].e.l.length = s6 at *
   generalize ks[k].desc = ds at *
   clear hkc hks hck h1 h2 h3 h4 hWa hWb b1 b2 hb1 hb2 hz hbw hgk HO HB
   go_wp2_with (first | (rw [← HWB.out]) | (rw [← HWA.out]) | (at_builtin; refine Lib.wpList_append_run_sl _ rfl _ _ 27 rfl _ _ rfl rfl hrun ?_))
   go_roundw
   case rel => exact ⟨k + 1, by omega, by go_num, HO', HB'⟩
   case measure => simp [intOf]; omega
  ·obtain rfl : k = m := by omega
   have ho := HO.out
   rw [List.take_of_length_le (by rw [HES.out]; exact Nat.le_refl _)] at ho
   obtain ⟨l', A2, c2, rfl, hs2, he2⟩ := ho.got (fun _ _ => trivial)
   obtain rfl := he2 rfl
   have HWR := Lib.hid (bthen HB1.out HB.out)
   have HPX := HPR.out wr HWR.out A2 c2 hs2
   rw [HES.out] at HPX ⊢
   rw [← HN.out] at HPX
   have HPX := Lib.hid HPX
   have CW := Lib.hid ((HB.out.cell (p := ⟨w.heap.size, 0, none⟩) (by have := HZ1.out; show w.heap.size < W1.heap.size; omega)).trans C1.out)
   have HGW : Hid (w.heap.size < wr.heap.size) := Lib.hid (by have := HZ1.out; have := HB.out.size; omega)
   clear ho hs2 he2 HO HB HPR HEM HK
   go_wp2_with fail
   refine (HPX.out).mono ?_
   rintro q w3 ⟨v3, rfl, HO3, HB3⟩
   have HB03 := Lib.hid (bthen HWR.out HB3.out)
   clear HPX
   by_cases h0 : er = 0
   ·subst h0
    have HYE2 := Lib.hid (fun Z v W => HYES.out Z v W rfl)
    clear HYES
    have ho := HO3.out
    rw [if_pos rfl] at ho
    obtain ⟨rs', A', c', rfl, hl', hc', hr'⟩ := ho.rows
    have hn' : rs'.length = n := by rw [← HLL.out, ← hl', List.length_map]
    obtain ⟨Wa, W4, hWa, hW4, a1, a2, a3, a4, a5⟩ := boxR w3 (.slice A' n c')
    have HWa := Lib.hid hWa
    have HW4 := Lib.hid hW4
    have HB4 := Lib.hid a5
    have HZ4 := Lib.hid a4
    have cw4 := (a5.cell (p := ⟨w.heap.size, 0, none⟩) (Nat.lt_of_lt_of_le HGW.out HB3.out.size)).trans ((HB3.out.cell (p := ⟨w.heap.size, 0, none⟩) HGW.out).trans CW.out)
    obtain ⟨W5, hW5⟩ : ∃ W5 : World, W5 = W4.alloc (.cells ((List.replicate n (0 : Int)).map (Value.int .i64)).toArray 3) := ⟨_, rfl⟩
    have hb5 : Below W4.heap.size W4 W5 := by rw [hW5]; exact (Below.refl _ _).alloc (Nat.le_refl _) _
    have HCM := cmp_made (n := n) HKI.out hr' (fun r hr => HLW.out _ (by rw [← hl']; exact List.mem_map.2 ⟨r, hr, rfl⟩)) (by rw [← HMK.out]; exact hlk) hn'.symm (by omega) HB03.out a5 hb5 rfl (by rw [← HMK.out]; exact cw4) a3 (by have := a5.size; have := HGW.out; have := HB3.out.size; omega) (by omega)
    rw [hl'] at HCM
    have HRL := rule_keys ks L HLW.out
    have hmk5 := made_ints n (by omega) W4
    have hs5 := sl_made W4 n
    rw [← hW5] at hmk5 hs5
    have HS5 : Hid (SL W5 W4.heap.size ((plN n).take 0 ++ List.replicate (n - 0) 0) W5) := Lib.hid (by simpa using hs5)
    have HST := Lib.hid (fun (W : World) (h : SL W5 W4.heap.size (plN n) W) => stable_any W5 W4.heap.size n n _ _ _ _ HCM HRL (by omega) (plN n) W h (plN_len n) (fun z hz => by have := plN_mem hz; rw [HLL.out]; exact this) (plN_rise n))
    have HB5 := Lib.hid (bthen HB03.out (bthen a5 hb5))
    have HB5' := Lib.hid hb5
    have HGB : Hid (w.heap.size ≤ W4.heap.size) := Lib.hid (by have := a5.size; have := HGW.out; have := HB3.out.size; omega)
    rw [hn'] at HO3 ⊢
    clear hWa hW4 a5 a4 CW ho hr' hc' hl' hW5 hb5 HCM HRL hs5 HKI HNO cw4 HLW a3
    go_wp2_with (first | (rw [← HW4.out]) | (rw [← HWa.out]))
    clear HWa HW4 HB4 HZ4 HB03 HB3 hn' hmk5 a1 a2
    go_loopw [42] (fun iv wr => ∃ j : Nat, j ≤ n ∧ iv = .int .i64 (j : Int) ∧ Hid (SL W5 W4.heap.size ((plN n).take j ++ List.replicate (n - j) 0) wr)) (fun iv _ => n - (intOf iv).toNat)
    case atStart => exact ⟨0, Nat.zero_le _, rfl, HS5⟩
    case round =>
     clear HS5
     obtain ⟨j, hj, rfl, HS⟩ := hrel
     by_cases hlt2 : j < n
     ·have hlen : j < ((plN n).take j ++ List.replicate (n - j) (0 : Int)).length := by rw [List.length_append, List.length_take, plN_len, List.length_replicate]; omega
      have d1 := HS.out.cell j hlen
      have d2 := HS.out.free j
      have h6 := HS.out.set j (j : Int)
      rw [sl_next hlt2] at h6
      have HS' := Lib.hid h6
      have hjz : (j : Int) < (n : Int) := by omega
      generalize ((plN n).take j ++ List.replicate (n - j) (0 : Int))[j] = ov at *
      clear h6 HS hlen
      go_wp2_with fail
      go_roundw
      case rel => exact ⟨j + 1, by omega, by go_num, HS'⟩
      case measure => simp [intOf]; omega
     ·obtain rfl : n = j := by omega
      have hs := HS.out
      rw [Nat.sub_self, List.replicate_zero, List.append_nil, List.take_of_length_le (by rw [plN_len]; exact Nat.le_refl _)] at hs
      have HSX := Lib.hid (HST.out wr hs)
      clear hs HS HST
      go_wp2_with fail
      refine (HSX.out).mono ?_
      rintro q w7 ⟨rfl, Z, hZ1, hZ2, hZ3⟩
      have HB7 : Hid (Below w.heap.size w w7) := Lib.hid (HB5.out.trans ((hZ1.bel HB5'.out.size).mono (by have := HB5.out.size; have := HGB.out; omega)))
      have HZC : Hid (∀ k (h : k < n), ∃ zn : Nat, zn < n ∧ Z.getD k 0 = (zn : Int) ∧ w7.cell? ⟨W4.heap.size, k, none⟩ = some (.int .i64 (zn : Int)) ∧ ∃ (h1 : zn < l.length) (h2 : k < (pick l Z).length), (pick l Z)[k] = l[zn]) := Lib.hid fun k h => by
       have hzl : Z.length = n := by rw [hZ2.length_eq, plN_len]
       have hk : k < Z.length := by omega
       have hz := plN_mem (hZ2.mem_iff.1 (List.getElem_mem hk))
       obtain ⟨zn, hzn⟩ : ∃ zn : Nat, Z[k] = zn := ⟨Z[k].toNat, by omega⟩
       have hznn : zn < l.length := by rw [HL2.out]; omega
       refine ⟨zn, by omega, by rw [List.getD_eq_getElem?_getD, List.getElem?_eq_getElem hk]; exact hzn, by rw [hZ1.cell k hk, hzn], hznn, by simpa [pick] using hk, ?_⟩
       simp [pick, hzn, hznn]
      have HPZ : Hid ((pick l Z).length = n) := Lib.hid (by simp [pick, hZ2.length_eq, plN_len])
      have HPP := Lib.hid (And.intro hZ2 hZ3)
      have HLT7 := Lib.hid hZ1.lt
      have hmk8 := made_rows n (by omega) w7
      obtain ⟨W8, hW8⟩ : ∃ W8 : World, W8 = w7.alloc (.cells (List.replicate n (Value.slice none 0 0)).toArray 41) := ⟨_, rfl⟩
      have hb8 : Below w7.heap.size w7 W8 := by rw [hW8]; exact (Below.refl _ _).alloc (Nat.le_refl _) _
      obtain ⟨PZ, hPZ⟩ : ∃ PZ, pick l Z = PZ := ⟨_, rfl⟩
      have HO8 : Hid (OwnR W8 w7.heap.size (.slice (some ⟨w7.heap.size, 0, none⟩) n n) (PZ.take 0 ++ List.replicate (n - 0) [])) := Lib.hid (by rw [hW8]; simpa using ownR_made w7 n (by omega))
      rw [← hW8] at hmk8
      have HB8 := Lib.hid hb8
      have HYZ := Lib.hid (fun v W => HYE2.out Z v W HPP)
      rw [hPZ] at HZC HPZ HYZ
      clear hZ1 hZ2 hZ3 hW8 hb8 hPZ HSX HPP HYE2 HB5 HB5'
      go_wp2_with fail
      clear hmk8
      go_loopw [58] (fun iv wr => ∃ j : Nat, j ≤ n ∧ iv = .int .i64 (j : Int) ∧ Hid (OwnR wr w7.heap.size (.slice (some ⟨w7.heap.size, 0, none⟩) n n) (PZ.take j ++ List.replicate (n - j) [])) ∧ Hid (Below w7.heap.size w7 wr)) (fun iv _ => n - (intOf iv).toNat)
      case atStart => exact ⟨0, Nat.zero_le _, rfl, HO8, HB8⟩
      case round =>
       clear HO8 HB8
       obtain ⟨j, hj, rfl, HO, HB⟩ := hrel
       by_cases hlt3 : j < n
       ·obtain ⟨zn, hzn, -, hcz, h1, h2, h3⟩ := HZC.out j hlt3
        obtain ⟨q1, q2, q3, q4⟩ := HLR.out zn hzn
        obtain ⟨ba, offa, hAa, hbla, hca⟩ := HA.out.1 (by omega)
        subst hAa
        have hbw := bthen HB7.out HB.out
        have e1 := (hbw.cell (p := ⟨ba, _, none⟩) hbla).trans (hca zn q1)
        have e2 := (HB.out.cell (p := ⟨W4.heap.size, j, none⟩) HLT7.out).trans hcz
        have HJ1 := Lib.hid (joined_one rs[zn] wr ((HA.out.2 rs[zn] (List.getElem_mem q1)).later hbw) q4)
        unfold BV.R.val at e1
        rw [q3] at e1 HJ1
        have HPN := Lib.hid (put_next (n := n) h2 HPZ.out.symm)
        rw [h3] at HPN
        have hlen : j < (PZ.take j ++ List.replicate (n - j) ([] : List BV.V)).length := by rw [List.length_append, List.length_take, List.length_replicate, HPZ.out]; omega
        have HLEN := Lib.hid hlen
        have hjz : (j : Int) < (n : Int) := by omega
        have hzz : (zn : Int) < (n : Int) := by omega
        generalize l[zn] = x at *
        generalize rs[zn].A = xA at *
        generalize rs[zn].c = xc at *
        obtain ⟨lx, hlx⟩ : ∃ lx, x.length = lx := ⟨_, rfl⟩
        rw [hlx] at e1 HJ1
        have HLX := Lib.hid hlx
        clear hcz h1 h2 h3 q1 q2 q3 q4 hca hbla hbw hlx hlen
        go_wp2_with fail
        refine (HJ1.out).mono ?_
        rintro q w5 ⟨v5, rfl, HOv, HBv⟩
        obtain ⟨A5, c5, rfl, hoff⟩ := HOv.out.off (B' := w7.heap.size) (g := some w7.heap.size) HB.out.size (fun k e => by injection e with e; have := (HO.out.lt w7.heap.size rfl).2; omega)
        obtain ⟨h6, u0, h7, h8⟩ := ownR_put (HO.out.later HBv.out) j HLEN.out A5 c5 x hoff
        rw [HPN.out] at h6
        have HO6 := Lib.hid h6
        have HB6 := Lib.hid ((bthen HB.out HBv.out).setCell (p := ⟨w7.heap.size, j, none⟩) (Nat.le_refl _) (.slice A5 x.length c5))
        rw [HLX.out] at HO6 HB6 ⊢
        clear hoff h6 HOv HBv HJ1 HPN HO HB e1 e2 HLEN HLX
        go_wp2_with fail
        go_roundw
        case rel => exact ⟨j + 1, by omega, by go_num, HO6, HB6⟩
        case measure => simp [intOf]; omega
       ·obtain rfl : n = j := by omega
        have h := HO.out
        rw [Nat.sub_self, List.replicate_zero, List.append_nil, List.take_of_length_le (by rw [HPZ.out]; exact Nat.le_refl _)] at h
        have HFIN := Lib.hid (HYZ.out _ wr (Lib.hid (h.mono HB7.out.size)) (Lib.hid (bthen HB7.out HB.out)))
        clear h HO HB HYZ
        go_wp2_with fail
        go_ret2
        exact HFIN.out
   ·have e0 : (er != 0) = true := by simpa using h0
    obtain ⟨A3, c3, rfl, -⟩ := HO3.out.shape
    generalize (if er = 0 then L else []).length = n3 at *
    obtain ⟨Wa, W4, hWa, hW4, a1, a2, a3, a4, a5⟩ := boxR w3 (.slice A3 n3 c3)
    have HWa := Lib.hid hWa
    have HW4 := Lib.hid hW4
    have HFIN := Lib.hid (HNO.out W4 h0 (Lib.hid (bthen HB03.out a5)))
    clear HO3 HNO HYES hWa hW4 a5 a4 CW
    go_wp2_with (first | (rw [← HW4.out]) | (rw [← HWa.out]))
    go_ret2
    exact HFIN.out
def Ordered (e : E) (d : Bool) (l out : List (List BV.V)) : Prop := ∃ Z, Z.Perm (plN l.length) ∧ Z.Pairwise (TO (byC [⟨e, d⟩] (l.map (projV [e])))) ∧ out = pick l Z
def SortL (e : E) (d : Bool) (w : World) (l : List (List BV.V)) (q : Ending) (w' : World) : Prop := ∃ out, Hid (Told w (eT e l) out q w') ∧ Hid (eT e l = 0 → Ordered e d l out) ∧ Hid (¬ eT e l = 0 → out = [])
theorem sort_la {l : List (List BV.V)} {A K : Option Addr} {n ca kc : Nat} {e : E} {d : Bool} {S : Nat → Prop} {w : World} (ha : LA w A n ca l) (hk : KysAt S w K [⟨e, d⟩]) (hE : SC.Env w) (B : Bg e l) :
  Calls Tryz.prog 19 #[.slice A n ca, .slice K 1 kc] w (SortL e d w l) := by
 obtain ⟨rs, rfl, h2, -, h3, -⟩ := ha
 have hm : ∀ r ∈ rs, r.xs ∈ l := fun r hr => by rw [← h2]; exact List.mem_map.2 ⟨r, hr, rfl⟩
 have hl : rs.length ≤ 30 := by have := B.many; rw [← h2, List.length_map] at this; exact this
 have h := sort_any [⟨e, d⟩] rs S w K A kc ca hk h3 hE (by omega) (by simp) (fun r hr => by have := B.wide _ (hm r hr); omega) (fun r hr x hx => by rw [List.mem_singleton] at hx; rw [hx]; exact B.fit _ (hm r hr))
 rw [h2] at h
 refine h.mono ?_
 rintro q w' ⟨out, h1, h2⟩
 have h3 := told_E h1.out
 by_cases h0 : eT e l = 0
 ·refine ⟨out, Lib.hid ?_, Lib.hid fun _ => h2.out h0, Lib.hid fun h => absurd h0 h⟩
  have : (if firstE (l.map (projE ([(⟨e, d⟩ : Ky)].map Ky.e))) = 0 then out else []) = out := if_pos h0
  rw [this] at h3
  exact h3
 ·refine ⟨[], Lib.hid ?_, Lib.hid fun h => absurd h h0, Lib.hid fun _ => rfl⟩
  have : (if firstE (l.map (projE ([(⟨e, d⟩ : Ky)].map Ky.e))) = 0 then out else []) = [] := if_neg h0
  rw [this] at h3
  exact h3
theorem Ordered.perm {e : E} {d : Bool} {l out : List (List BV.V)} (h : Ordered e d l out) : out.Perm l := by
 obtain ⟨Z, h1, -, rfl⟩ := h
 exact pick_perm h1
theorem proj_wide (e : E) (l : List (List BV.V)) (d : Bool) : ∀ r ∈ l.map (projV [e]), [(⟨e, d⟩ : Ky)].length ≤ r.length := fun r hr => by
 obtain ⟨x, -, rfl⟩ := List.mem_map.1 hr
 simp [projV]
theorem Ordered.two {e : E} {d : Bool} {l out : List (List BV.V)} (h : Ordered e d l out) {i j : Nat} (hij : i < j) (hj : j < out.length) : keyC [⟨e, d⟩] (projV [e] (out[i]'(by omega))) (projV [e] out[j]) ≤ 0 := by
 obtain ⟨Z, h1, h2, rfl⟩ := h
 have hl : (pick l Z).length = Z.length := by simp [pick]
 have hz := List.pairwise_iff_getElem.1 h2 i j (by omega) (by omega) hij
 have m1 := plN_mem (h1.mem_iff.1 (List.getElem_mem (show i < Z.length by omega)))
 have m2 := plN_mem (h1.mem_iff.1 (List.getElem_mem (show j < Z.length by omega)))
 obtain ⟨a, ha⟩ : ∃ a : Nat, Z[i]'(by omega) = a := ⟨(Z[i]'(by omega)).toNat, by omega⟩
 obtain ⟨b, hb⟩ : ∃ b : Nat, Z[j]'(by omega) = b := ⟨(Z[j]'(by omega)).toNat, by omega⟩
 have ha' : a < l.length := by omega
 have hb' : b < l.length := by omega
 rw [ha, hb] at hz
 have e1 : (pick l Z)[i]'(by omega) = l[a] := by simp [pick, ha, ha']
 have e2 : (pick l Z)[j] = l[b] := by simp [pick, hb, hb']
 rw [e1, e2]
 unfold TO at hz
 rw [byC_at (by rw [List.length_map]; exact ha') (by rw [List.length_map]; exact hb'), List.getElem_map, List.getElem_map] at hz
 omega
theorem Ordered.again {e : E} {d : Bool} {l out out2 : List (List BV.V)} (h : Ordered e d l out) (h' : Ordered e d out out2) : out2 = out := by
 obtain ⟨Z, h1, h2, rfl⟩ := h'
 have hr := rule_keys [⟨e, d⟩] (out.map (projV [e])) (proj_wide e out d)
 have hs : (plN out.length).Pairwise (TO (byC [⟨e, d⟩] (out.map (projV [e])))) := by
  rw [List.pairwise_iff_getElem]
  intro i j hi hj hij
  rw [plN_len] at hi hj
  rw [plN_at hi, plN_at hj]
  have := h.two hij hj
  unfold TO
  rw [byC_at (by rw [List.length_map]; exact hi) (by rw [List.length_map]; exact hj), List.getElem_map, List.getElem_map]
  omega
 have e1 := to_unique hr (fun z hz => by have := plN_mem (h1.mem_iff.1 hz); rw [List.length_map]; exact this) h1 h2 hs
 rw [e1, pick_all]
theorem Ordered.vals {e : E} {d : Bool} {l out : List (List BV.V)} (h : Ordered e d l out) {i : Nat} (hi : i + 1 < out.length) : ∃ (h1 : i < (out.map (projV [e])).length) (h2 : i + 1 < (out.map (projV [e])).length), (d = false → BV.cmpR (out.map (projV [e]))[i] (out.map (projV [e]))[i + 1] ≤ 0) ∧ (d = true → 0 ≤ BV.cmpR (out.map (projV [e]))[i] (out.map (projV [e]))[i + 1]) := by
 refine ⟨by rw [List.length_map]; omega, by rw [List.length_map]; omega, ?_⟩
 have h1 := h.two (Nat.lt_succ_self i) hi
 rw [List.getElem_map, List.getElem_map]
 generalize out[i] = x at *
 generalize out[i + 1] = y at *
 show (d = false → BV.cmpL BV.cmpVV [(e.ev deedP x).2] [(e.ev deedP y).2] ≤ 0) ∧ (d = true → 0 ≤ BV.cmpL BV.cmpVV [(e.ev deedP x).2] [(e.ev deedP y).2])
 have h1' : keyC [⟨e, d⟩] [(e.ev deedP x).2] [(e.ev deedP y).2] ≤ 0 := h1
 generalize (e.ev deedP x).2 = a at *
 generalize (e.ev deedP y).2 = b at *
 simp only [BV.cmpL, keyC, kc] at h1' ⊢
 cases d
 ·refine ⟨fun _ => ?_, fun h => by cases h⟩
  by_cases h0 : BV.cmpVV a b = 0
  ·rw [if_pos h0]; exact Int.le_refl _
  ·rw [if_neg h0]
   simp only [Bool.false_eq_true, if_false, if_neg h0] at h1'
   exact h1'
 ·refine ⟨fun h => (by cases h), fun _ => ?_⟩
  by_cases h0 : BV.cmpVV a b = 0
  ·rw [if_pos h0]; exact Int.le_refl _
  ·rw [if_neg h0]
   have : ¬ (- BV.cmpVV a b = 0) := by omega
   simp only [if_true, if_neg this] at h1'
   omega
theorem keys1 {S : Nat → Prop} {w : World} (e : E) (d : Bool) (A1 : Option Addr) (c1 : Nat) (h1 : Sub S w e A1 c1) :
  KysAt (fun _ => True) (w.alloc (.cells #[.string (str e.op), .int .i64 e.v.k, .int .i64 e.v.i, .string (str e.v.s), .string (str e.tb), .string (str e.nm), .slice A1 e.l.length c1, .bool d] 53)) (some ⟨w.heap.size, 0, none⟩) [⟨e, d⟩] := by
 have hb := bel_allocE (Below.refl w.heap.size w) (.cells #[.string (str e.op), .int .i64 e.v.k, .int .i64 e.v.i, .string (str e.v.s), .string (str e.tb), .string (str e.nm), .slice A1 e.l.length c1, .bool d] 53)
 have hh := heap_alloc_new w (.cells #[.string (str e.op), .int .i64 e.v.k, .int .i64 e.v.i, .string (str e.v.s), .string (str e.tb), .string (str e.nm), .slice A1 e.l.length c1, .bool d] 53)
 have s1 := (sub_later h1 hb).keep (S' := fun _ => True) (fun _ _ _ => ⟨trivial, rfl⟩) (Nat.le_refl _)
 have hlt := (Array.getElem?_eq_some_iff.1 hh).1
 generalize w.alloc _ = W at *
 refine fun _ => ⟨w.heap.size, 0, rfl, hlt, fun j hj => ?_⟩
 obtain rfl : j = 0 := by have : j < 1 := hj; omega
 refine ⟨A1, c1, ?_, s1⟩
 refine ⟨?_, ?_, ?_, ?_, ?_, ?_, ?_, ?_⟩ <;> (rw [Lib.cell_of_heap hh]; rfl)
theorem LA.cell {w : World} {A : Option Addr} {n c : Nat} {l : List (List BV.V)} (h : LA w A n c l) {k : Nat} (hk : k < n) : ∃ (h1 : k < l.length) (b off : Nat) (r : BV.R), A = some ⟨b, off, none⟩ ∧ b < w.heap.size ∧ w.cell? ⟨b, off + k, none⟩ = some (.slice r.A r.xs.length r.c) ∧ r.xs = l[k] ∧ BV.RowAt w w.heap.size r.A r.xs := by
 obtain ⟨rs, rfl, rfl, -, h3, -⟩ := h
 obtain ⟨b, off, hA, hlt, hc⟩ := h3.1 (by omega)
 exact ⟨by rw [List.length_map]; exact hk, b, off, rs[k], hA, hlt, hc k hk, by rw [List.getElem_map], h3.2 _ (List.getElem_mem hk)⟩
theorem order_law (rs : List BV.R) (e : E) (W1 : Int) (d : Bool) (A : Option Addr) (ca : Nat) (xv : Value) (S : Nat → Prop) (w : World) (hE : SC.Env w) (hE' : BV.Env w) (ha : BV.RowsAt w w.heap.size A rs) (hla : rs.length ≤ 140737488355328) (hsa : BV.Small rs) (hca : ∀ r ∈ rs, r.xs.length ≤ r.c)
  (hia : ∀ r ∈ rs, ∀ v ∈ r.xs, -9223372036854775808 ≤ v.i ∧ v.i ≤ 9223372036854775807) (hx : EAt S w e xv) (hin : e.ints = true) :
  Calls Tryz.prog 5 #[.agg #[.int .i64 W1, .slice A rs.length ca], xv, .bool d] w fun q w' => q = .returned (.bool true) ∧ Below w.heap.size w w' := by
 obtain ⟨A7, c7, rfl, hs7⟩ := hx
 have hEV1 := Lib.hid (fun W (hb : Below w.heap.size w W) => even_la W1 rs A ca W (rowsL ha hb) hla hsa hca)
 have HX := Lib.hid (fun W (hb : Below w.heap.size w W) => (show EAt S W e (.agg #[.string (str e.op), .int .i64 e.v.k, .int .i64 e.v.i, .string (str e.v.s), .string (str e.tb), .string (str e.nm), .slice A7 e.l.length c7]) from ⟨A7, c7, rfl, sub_later hs7 hb⟩))
 have HS7 := Lib.hid hs7
 have HLV := Lib.hid (fun W (hb : Below w.heap.size w W) => liveR_any W (hE.later hb) (hE'.below hb hE'.size))
 have HE := Lib.hid hE
 have HE' := Lib.hid (fun W (hb : Below w.heap.size w W) => hE'.below hb hE'.size)
 obtain ⟨wa, hwa⟩ : ∃ wa, wa = evW W1 := ⟨_, rfl⟩
 have hwa5 : wa ≤ 5 := by rw [hwa]; exact (evW_eq W1).2
 obtain ⟨la, hla'⟩ : ∃ la, la = (rs.map BV.R.xs).map (evR wa) := ⟨_, rfl⟩
 have HVA : Hid (evOk rs = true → la.length ≤ 30) := Lib.hid fun h => by rw [hla']; exact (ev_of h hia wa).many
 have HBG : Hid (evOk rs = true → okB (wa : Int) e = true → Bg e la) := Lib.hid fun h ho => by rw [hla']; exact bg_of h hia wa hwa5 ho hin
 have HBD := Lib.hid (fun (V : Int) (W : World) (g : Nat) (hs : Sub (fun _ => True) W (.mk [] v0 [] [] [e]) (some ⟨g, 0, none⟩) 1) => bound_any V [e] v0 (some ⟨g, 0, none⟩) 1 (fun _ => True) W hs)
 unfold EvenT at hEV1
 rw [← hwa, ← hla'] at hEV1
 simp only [List.all_cons, List.all_nil, Bool.and_true, List.length_cons, List.length_nil] at HBD
 generalize rs.length = n at *
 obtain ⟨W0, hW0⟩ : ∃ W0 : World, W0 = (w.alloc (.cells #[.int .i64 W1, .slice A n ca] 24)).alloc (.cells #[.string (str e.op), .int .i64 e.v.k, .int .i64 e.v.i, .string (str e.v.s), .string (str e.tb), .string (str e.nm), .slice A7 e.l.length c7] 29) := ⟨_, rfl⟩
 have b0 : Below w.heap.size w W0 := by rw [hW0]; exact (one_alloc w _).alloc (by simp) _
 have HC : Hid (∀ W', Below W0.heap.size W0 W' → (W'.cell? ⟨w.heap.size, 0, none⟩ = some (.int .i64 W1) ∧ W'.cell? ⟨w.heap.size, 1, none⟩ = some (.slice A n ca) ∧ W'.cell? ⟨w.heap.size + 1, 0, none⟩ = some (.string (str e.op)) ∧ W'.cell? ⟨w.heap.size + 1, 1, none⟩ = some (.int .i64 e.v.k) ∧ W'.cell? ⟨w.heap.size + 1, 2, none⟩ = some (.int .i64 e.v.i) ∧ W'.cell? ⟨w.heap.size + 1, 3, none⟩ = some (.string (str e.v.s)) ∧ W'.cell? ⟨w.heap.size + 1, 4, none⟩ = some (.string (str e.tb)) ∧ W'.cell? ⟨w.heap.size + 1, 5, none⟩ = some (.string (str e.nm)) ∧ W'.cell? ⟨w.heap.size + 1, 6, none⟩ = some (.slice A7 e.l.length c7))) := Lib.hid fun W' hb => by
  have h1 := heap_alloc_new w (.cells #[.int .i64 W1, .slice A n ca] 24)
  have h3 := heap_alloc_new (w.alloc (.cells #[.int .i64 W1, .slice A n ca] 24)) (.cells #[.string (str e.op), .int .i64 e.v.k, .int .i64 e.v.i, .string (str e.v.s), .string (str e.tb), .string (str e.nm), .slice A7 e.l.length c7] 29)
  have z : W0.heap.size = w.heap.size + 2 := by rw [hW0]; simp
  have g1 : W0.heap[w.heap.size]? = some (.cells #[.int .i64 W1, .slice A n ca] 24 (0, 0)) := by rw [hW0, heap_alloc_old _ _ (by simp)]; exact h1
  have g3 : W0.heap[w.heap.size + 1]? = some (.cells #[.string (str e.op), .int .i64 e.v.k, .int .i64 e.v.i, .string (str e.v.s), .string (str e.tb), .string (str e.nm), .slice A7 e.l.length c7] 29 (0, 0)) := by rw [hW0]; simpa using h3
  have k1 := (hb.block w.heap.size (by omega)).trans g1
  have k3 := (hb.block (w.heap.size + 1) (by omega)).trans g3
  refine ⟨?_, ?_, ?_, ?_, ?_, ?_, ?_, ?_, ?_⟩
  ·rw [Lib.cell_of_heap k1]; rfl
  ·rw [Lib.cell_of_heap k1]; rfl
  all_goals (rw [Lib.cell_of_heap k3]; rfl)
 have HB0 := Lib.hid b0
 have HW0 := Lib.hid hW0
 have hsub1 : Hid (∀ W, Below w.heap.size w W → Sub (fun _ => True) (W.alloc (.cells #[.string (str e.op), .int .i64 e.v.k, .int .i64 e.v.i, .string (str e.v.s), .string (str e.tb), .string (str e.nm), .slice A7 e.l.length c7] 29)) (.mk [] v0 [] [] [e]) (some ⟨W.heap.size, 0, none⟩) 1) := Lib.hid fun W hb => oneS e A7 c7 (sub_later HS7.out hb) [] v0 [] []
 have HKEY : Hid (∀ W, Below w.heap.size w W → KysAt (fun _ => True) (W.alloc (.cells #[.string (str e.op), .int .i64 e.v.k, .int .i64 e.v.i, .string (str e.v.s), .string (str e.tb), .string (str e.nm), .slice A7 e.l.length c7, .bool d] 53)) (some ⟨W.heap.size, 0, none⟩) [⟨e, d⟩]) := Lib.hid fun W hb => keys1 e d A7 c7 (sub_later HS7.out hb)
 unfold eVal
 clear ha hla hsa hca hia hs7 hE hE' hwa hla' hin b0 hW0 HS7
 generalize str e.op = s0 at *
 generalize e.v.k = i1 at *
 generalize e.v.i = i2 at *
 generalize str e.v.s = s3 at *
 generalize str e.tb = s4 at *
 generalize str e.nm = s5 at *
 generalize e.l.length = l7 at *
 cases h1 : evOk rs
 ·rw [h1] at hEV1
  clear h1
  go_enter Tryz.func5, Tryz.ntmps5
  go_wp2_with fail
  rw [← HW0.out]
  refine (HLV.out W0 HB0.out).mono ?_
  rintro q w1 ⟨rfl, b1⟩
  have BW := Lib.hid b1
  have BB := Lib.hid (bthen HB0.out b1)
  obtain ⟨c0, c1, -, -, -, -, -, -, -⟩ := HC.out w1 BW.out
  clear b1 HW0 HLV
  go_wp2_with fail
  refine (hEV1.out w1 BB.out).mono ?_
  rintro q w2 ⟨va, rfl, HLa, b2⟩
  have BW := Lib.hid (bthen BW.out b2.out)
  have BB := Lib.hid (bthen BB.out b2.out)
  obtain ⟨-, -, e0, e1, e2, e3, e4, e5, e6⟩ := HC.out w2 BW.out
  clear b2 c0 c1 hEV1
  go_wp2_with fail
  go_ret
  exact ⟨rfl, BB.out⟩
 rw [h1] at hEV1
 cases h3 : okB (wa : Int) e
 ·have HBD := Lib.hid (fun W g hs => by have := HBD.out (wa : Int) W g hs; rw [h3] at this; exact this)
  go_enter Tryz.func5, Tryz.ntmps5
  go_wp2_with fail
  rw [← HW0.out]
  refine (HLV.out W0 HB0.out).mono ?_
  rintro q w1 ⟨rfl, b1⟩
  have BW := Lib.hid b1
  have BB := Lib.hid (bthen HB0.out b1)
  obtain ⟨c0, c1, -, -, -, -, -, -, -⟩ := HC.out w1 BW.out
  clear b1 HW0 HLV
  go_wp2_with fail
  refine (hEV1.out w1 BB.out).mono ?_
  rintro q w2 ⟨va, rfl, HLa, b2⟩
  have BW := Lib.hid (bthen BW.out b2.out)
  have BB := Lib.hid (bthen BB.out b2.out)
  obtain ⟨-, -, e0, e1, e2, e3, e4, e5, e6⟩ := HC.out w2 BW.out
  clear b2 c0 c1 hEV1
  obtain ⟨Aa, xa, rfl, hA⟩ := HLa.out trivial
  have HA := Lib.hid hA
  obtain ⟨na, hna⟩ : ∃ na, na = la.length := ⟨_, rfl⟩
  have hna30 : na ≤ 30 := by rw [hna]; exact HVA.out h1
  rw [← hna] at HA ⊢
  have HNA := Lib.hid hna
  clear hA hna HLa HVA
  go_wp2_with fail
  refine (HBD.out (w2.alloc (.cells #[.string s0, .int .i64 i1, .int .i64 i2, .string s3, .string s4, .string s5, .slice A7 l7 c7] 29)) w2.heap.size (hsub1.out w2 BB.out)).mono ?_
  rintro q w4 ⟨rfl, b4⟩
  have b4 := bthen (one_alloc w2 _) b4
  have BW := Lib.hid (bthen BW.out b4)
  have BB := Lib.hid (bthen BB.out b4)
  have HA := Lib.hid (HA.out.later b4)
  clear e0 e1 e2 e3 e4 e5 e6 b4 HBD
  go_wp2_with fail
  go_ret
  exact ⟨rfl, BB.out⟩
 have HBD := Lib.hid (fun W g hs => by have := HBD.out (wa : Int) W g hs; rw [h3] at this; exact this)
 have BGA := Lib.hid (HBG.out h1 h3)
 go_enter Tryz.func5, Tryz.ntmps5
 go_wp2_with fail
 rw [← HW0.out]
 refine (HLV.out W0 HB0.out).mono ?_
 rintro q w1 ⟨rfl, b1⟩
 have BW := Lib.hid b1
 have BB := Lib.hid (bthen HB0.out b1)
 obtain ⟨c0, c1, -, -, -, -, -, -, -⟩ := HC.out w1 BW.out
 clear b1 HW0 HLV
 go_wp2_with fail
 refine (hEV1.out w1 BB.out).mono ?_
 rintro q w2 ⟨va, rfl, HLa, b2⟩
 have BW := Lib.hid (bthen BW.out b2.out)
 have BB := Lib.hid (bthen BB.out b2.out)
 obtain ⟨-, -, e0, e1, e2, e3, e4, e5, e6⟩ := HC.out w2 BW.out
 clear b2 c0 c1 hEV1
 obtain ⟨Aa, xa, rfl, hA⟩ := HLa.out trivial
 have HA := Lib.hid hA
 obtain ⟨na, hna⟩ : ∃ na, na = la.length := ⟨_, rfl⟩
 have hna30 : na ≤ 30 := by rw [hna]; exact HVA.out h1
 rw [← hna] at HA ⊢
 have HNA := Lib.hid hna
 clear hA hna HLa HVA
 go_wp2_with fail
 refine (HBD.out (w2.alloc (.cells #[.string s0, .int .i64 i1, .int .i64 i2, .string s3, .string s4, .string s5, .slice A7 l7 c7] 29)) w2.heap.size (hsub1.out w2 BB.out)).mono ?_
 rintro q w4 ⟨rfl, b4⟩
 have b4 := bthen (one_alloc w2 _) b4
 have BW := Lib.hid (bthen BW.out b4)
 have BB := Lib.hid (bthen BB.out b4)
 have HA := Lib.hid (HA.out.later b4)
 clear e0 e1 e2 e3 e4 e5 e6 b4 HBD
 obtain ⟨-, -, e0, e1, e2, e3, e4, e5, e6⟩ := HC.out w4 BW.out
 have HSO := Lib.hid (fun W (hb : Below w4.heap.size w4 W) K kc (hk : KysAt (fun _ => True) W K [⟨e, d⟩]) => sort_la (kc := kc) (HA.out.later hb) hk (HE.out.later (bthen BB.out hb)) BGA.out)
 obtain ⟨WK, hWK⟩ : ∃ WK : World, WK = w4.alloc (.cells #[.string s0, .int .i64 i1, .int .i64 i2, .string s3, .string s4, .string s5, .slice A7 l7 c7, .bool d] 53) := ⟨_, rfl⟩
 have bk : Below w4.heap.size w4 WK := by rw [hWK]; exact one_alloc _ _
 have HKK : Hid (KysAt (fun _ => True) WK (some ⟨w4.heap.size, 0, none⟩) [⟨e, d⟩]) := Lib.hid (by rw [hWK]; exact HKEY.out w4 BB.out)
 have HX1 := Lib.hid (HSO.out WK bk _ 1 HKK.out)
 unfold SortL at HX1
 have BW := Lib.hid (bthen BW.out bk)
 have BB := Lib.hid (bthen BB.out bk)
 have HA := Lib.hid (HA.out.later bk)
 have HWK := Lib.hid hWK
 clear hWK bk HSO h3
 go_wp2_with (rw [← HWK.out])
 refine (HX1.out).mono ?_
 rintro q w5 ⟨X, HT5, HO5, HN5⟩
 have HKK5 := Lib.hid (fun W (hb : Below WK.heap.size WK W) => HKK.out.later hb)
 by_cases hf0 : eT e la = 0
 case neg =>
  obtain rfl := HN5.out hf0
  obtain ⟨A5, c5, rfl, HL5, B5⟩ := HT5.out
  have hf1 : (eT e la != 0) = true := by simpa using hf0
  have BB := Lib.hid (bthen BB.out B5.out)
  generalize eT e la = f0 at *
  simp only [List.length_nil]
  clear e0 e1 e2 e3 e4 e5 e6 HT5 HO5 HN5 HL5 B5 HX1 hf0
  go_wp2_with fail
  go_ret
  exact ⟨rfl, BB.out⟩
 case pos =>
 have HORD := Lib.hid (HO5.out hf0)
 have HT5 := HT5.out
 rw [hf0] at HT5
 have HPX := Lib.hid (HORD.out.perm)
 have hXn : X.length = na := by rw [HPX.out.length_eq, HNA.out]
 obtain ⟨A5, c5, rfl, HL5, B5⟩ := HT5
 have BGX := Lib.hid (BGA.out.perm HPX.out.symm)
 have hfX : eT e X = 0 := (eT_perm HPX.out.symm).1 hf0
 have BW := Lib.hid (bthen BW.out B5.out)
 have BB := Lib.hid (bthen BB.out B5.out)
 have HA := Lib.hid (HA.out.later B5.out)
 rw [hXn] at HL5 ⊢
 have HX2 := Lib.hid (sort_la (kc := 1) HL5.out (HKK5.out w5 B5.out) (HE.out.later BB.out) BGX.out)
 have HFX := Lib.hid hfX
 have HVAL := Lib.hid (fun i (hi : i + 1 < X.length) => HORD.out.vals hi)
 rw [hXn] at HVAL
 have HPT : Hid (pT e X = X.map (projV [e])) := Lib.hid (if_pos hfX)
 have HPL : Hid ((pT e X).length = na) := Lib.hid (by rw [HPT.out, List.length_map, hXn])
 have HXN := Lib.hid hXn
 have HVW : Hid (∀ r ∈ pT e X, r.length ≤ 60) := Lib.hid fun r hr => (pT_row BGX.out r hr).1
 rw [← HPT.out] at HVAL
 have HPRJ := Lib.hid (fun W (hb : Below w5.heap.size w5 W) (K' : Option Addr) (kc : Nat) (hs : Sub (fun _ => True) W (.mk [] v0 [] [] [e]) K' kc) => project_la (HL5.out.later hb) hs (HE.out.later (bthen BB.out hb)) BGX.out)
 rw [hfX] at HPRJ
 clear e0 e1 e2 e3 e4 e5 e6 HO5 HN5 B5 HX1 hfX hXn hf0 HKK HKK5 HWK HKEY
 obtain ⟨-, -, e0, e1, e2, e3, e4, e5, e6⟩ := HC.out w5 BW.out
 go_wp2_with fail
 refine (HX2.out).mono ?_
 rintro q w6 ⟨X2, HT6, HO6, -⟩
 obtain rfl := HORD.out.again (HO6.out HFX.out)
 have HT6 := HT6.out
 rw [HFX.out] at HT6
 obtain ⟨A6, c6, rfl, HL6, B6⟩ := HT6
 rw [HXN.out] at HL6 ⊢
 have HL5 := Lib.hid (HL5.out.later B6.out)
 have HA := Lib.hid (HA.out.later B6.out)
 have BW := Lib.hid (bthen BW.out B6.out)
 have BB := Lib.hid (bthen BB.out B6.out)
 have bE := one_alloc w6 (.cells #[.string s0, .int .i64 i1, .int .i64 i2, .string s3, .string s4, .string s5, .slice A7 l7 c7] 29)
 have HX3 := Lib.hid (HPRJ.out _ (bthen B6.out bE) _ _ (hsub1.out w6 BB.out))
 generalize pT e X2 = V at *
 clear e0 e1 e2 e3 e4 e5 e6 HO6 B6 HX2 HPRJ HORD HFX HPT
 obtain ⟨-, -, e0, e1, e2, e3, e4, e5, e6⟩ := HC.out w6 BW.out
 go_wp2_with fail
 refine (HX3.out).mono ?_
 rintro q w7 ⟨A8, c8, rfl, HL8, B8⟩
 have b8 := Lib.hid (bthen bE B8.out)
 have HS1 := Lib.hid (same_la (HL5.out.later b8.out) (HL6.out.later b8.out) rfl (by omega) (fun r hr => by have := BGX.out.wide r hr; omega))
 have HS2 := Lib.hid (fun W (hb : Below w7.heap.size w7 W) => bag_la ((HL5.out.later b8.out).later hb) ((HA.out.later b8.out).later hb) HPX.out (by omega) (by omega) (fun r hr => by have := BGX.out.wide r hr; omega) (fun r hr => by have := BGA.out.wide r hr; omega))
 have BB := Lib.hid (bthen BB.out b8.out)
 rw [HPL.out] at HL8 ⊢
 clear e0 e1 e2 e3 e4 e5 e6 B8 HX3 HL5 HL6 HA BGX BGA HPX b8 bE BW HC HX hsub1
 go_wp2_with fail
 refine (HS1.out).mono ?_
 rintro q w8 ⟨rfl, b9⟩
 have HS2 := Lib.hid (HS2.out w8 b9)
 have HL8 := Lib.hid (HL8.out.later b9)
 have BB := Lib.hid (bthen BB.out b9)
 clear b9 HS1
 go_wp2_with fail
 refine (HS2.out).mono ?_
 rintro q w9 ⟨rfl, b9⟩
 have HL8 := Lib.hid (HL8.out.later b9)
 have BB := Lib.hid (bthen BB.out b9)
 clear b9 HS2
 go_wp2_with fail
 go_loopw [91] (fun iv wr => ∃ i : Nat, i ≤ na ∧ iv = .int .i64 (i : Int) ∧ Hid (Below w9.heap.size w9 wr)) (fun iv _ => na - (intOf iv).toNat)
 case atStart => exact ⟨0, Nat.zero_le _, rfl, Lib.hid (Below.refl _ _)⟩
 case round =>
  obtain ⟨i, hi, rfl, HB⟩ := hrel
  by_cases hlt : i < na
  ·by_cases h0 : i = 0
   ·subst h0
    have hltz : (0 : Int) < (na : Int) := by omega
    go_wp2_with fail
    go_roundw
    case rel => exact ⟨1, by omega, by first | rfl | go_num, HB⟩
    case measure => simp [intOf]; omega
   ·obtain ⟨j, rfl⟩ : ∃ j, i = j + 1 := ⟨i - 1, by omega⟩
    obtain ⟨h1, h2, hv1, hv2⟩ := HVAL.out j hlt
    obtain ⟨k1, b, off, r1, rfl, hb, hc1, hx1, hr1⟩ := HL8.out.cell (k := j) (by omega)
    obtain ⟨k2, b', off', r2, hAA, -, hc2, hx2, hr2⟩ := HL8.out.cell (k := j + 1) hlt
    injection hAA with hAA
    injection hAA with hA1 hA2 hA3
    subst hA1 hA2
    have D1 := Lib.hid (fun (z : LTT wr) => ((bthen HB.out z.2).cell (p := ⟨b, _, none⟩) hb).trans hc1)
    have D2 := Lib.hid (fun (z : LTT wr) => ((bthen HB.out z.2).cell (p := ⟨b, _, none⟩) hb).trans hc2)
    have CC := Lib.hid (fun (z : LTT wr) => BV.rcmpR_any r1.xs r2.xs r1.A r2.A r1.c r2.c z.1 (hr1.later (bthen HB.out z.2)) (hr2.later (bthen HB.out z.2)) (by have := congrArg List.length hx1; have := HVW.out _ (List.getElem_mem h1); omega))
    rw [← hx1, ← hx2] at hv1 hv2
    have hrg := BV.cmpR_ok.range r1.xs r2.xs
    have HV1 := Lib.hid hv1
    have HV2 := Lib.hid hv2
    generalize BV.cmpR r1.xs r2.xs = r at *
    generalize r1.xs.length = l1 at *
    generalize r2.xs.length = l2 at *
    generalize r1.A = A1 at *
    generalize r2.A = A2 at *
    generalize r1.c = c1 at *
    generalize r2.c = c2 at *
    have hltz : (j : Int) + 1 < (na : Int) := by omega
    have hltz1 : (j : Int) < (na : Int) := by omega
    have hne : (((j : Int) + 1) == 0) = false := by simp; omega
    have hne2 : ¬ ((j : Int) + 1 = 0) := by omega
    have hwp : IntKind.i64.wrap (j : Int) = (j : Int) := by rw [IntKind.wrap_i64]; omega
    have e0 : ((j : Int) + 1).toNat = j + 1 := by omega
    have p0 : (0 : Int) ≤ (j : Int) + 1 := by omega
    clear h0 hv1 hv2 hc1 hc2 hx1 hx2 hr1 hr2 hb h1 h2 k1 k2 hA3 HL8 HVAL HPL HVW HXN
    rcases hrg with rfl | rfl | rfl
    all_goals (
     cases d
     all_goals (
      have V1 := HV1.out
      have V2 := HV2.out
      first
      | (exfalso; have := V1 rfl; omega)
      | (exfalso; have := V2 rfl; omega)
      |(clear V1 V2 HV1 HV2
        go_wp2_with fail
        have HNE : Nonempty (LTT wr) := ⟨⟨wr, Below.refl _ _⟩⟩
        have d1 := D1.out
        have d2 := D2.out
        refine wp_region_classR (fun w' => ∃ x : LTT wr, w' = x.1) (by kernel_rfl) (by kernel_rfl) ⟨⟨_, (Below.refl _ wr).drew⟩, rfl⟩ ?_
        repeat (go_big_quiet_step ((rename_i z; (go_at_call 20; refine (CC.out z).mono ?_; rintro e w2 ⟨rfl, hb⟩; exact ⟨rfl, ⟨_, bthen z.2 hb⟩, rfl⟩))))
        refine wpQuiet_nil ?_
        rintro Wc ⟨⟨W1, h1⟩, rfl⟩
        have HB2 : Hid (Below w9.heap.size w9 Wc) := Lib.hid (bthen HB.out h1)
        clear d1 d2 D1 D2 CC h1 HNE HB
        go_wp2_with fail
        go_roundw
        case rel => exact ⟨j + 2, by omega, by go_num, HB2⟩
        case measure => simp [intOf]; omega)))
  ·obtain rfl : na = i := by omega
   have BB := Lib.hid (bthen BB.out HB.out)
   go_wp2_with fail
   go_ret
   exact ⟨rfl, BB.out⟩
end Go.Proofs.YtkigddankkoahaaGreatDoor
