/- Plain: an expression's columns, each once, as a finder finds them that counts each one's key. No condition. -/
import Derived.Test.YthohfegnphocbaaGreatDoorQ10
import Derived.Test.YthohfegnphocbaaGreatDoorQ09
import Derived.Test.YthohfegnphocbaaGreatDoorQ07
import Derived.Lib.ItoaLen
import Derived.Maps.OwnOps
import Derived.Test.YthohfegnphocbaaGreatDoorQ04
import Derived.Test.YthohfegnphocbaaGreatDoorQ06
import Derived.Lib.AppendIntMem
import Derived.Lib.AppendZeros
import Derived.Test.YthohfegnphocbaaGreatDoorQ15
import Derived.Deep.Upon
import Derived.Lib.SlFresh
import Derived.Lib.SliceRun
import Derived.Deep.RegionLaw
import Derived.StringKeys
namespace Go.Proofs.YthohfegnphocbaaGreatDoor
open Go.RowKit
def kNum (b : List UInt8) (i : Int) : List UInt8 := b ++ Lib.itoa i ++ [32]
def kStr (b s : List UInt8) : List UInt8 := kNum b s.length ++ s
def colKey (t n : List UInt8) : List UInt8 := kNum (kNum (kNum (kStr (kStr (kStr (kStr [] wCol) []) t) n) 0) 0) 0
def lookD (D : DataW Unit) (k : List UInt8) : Int := match D.atKey (.string k) (.lit (.int .i64 0)) with
  | .lit (.int _ c) => c
  | _ => 0
def hitD (D : DataW Unit) (k : List UInt8) : DataW Unit := D.put (.string k) (.lit (.int .i64 (wrap64 (lookD D k + 1))))
def hit (e : E) (s : List E × DataW Unit) : List E × DataW Unit :=
  (if lookD (hitD s.2 (colKey e.tb e.nm)) (colKey e.tb e.nm) = 1 then s.1 ++ [e] else s.1, hitD s.2 (colKey e.tb e.nm))
mutual
def E.cols : E → List E × DataW Unit → List E × DataW Unit
  | .mk o v t n l, s => E.colsL l (if o == wCol then hit (.mk o v t n l) s else s)
def E.colsL : List E → List E × DataW Unit → List E × DataW Unit
  | [], s => s
  | x :: l, s => E.colsL l (x.cols s)
end
theorem cols_not (x : E) (s : List E × DataW Unit) : (op1 wNot [x]).cols s = x.cols s := by
  simp only [op1, E.cols, E.colsL]
  rw [if_neg (by decide)]
theorem colsL_app (l m : List E) (s : List E × DataW Unit) : E.colsL (l ++ m) s = E.colsL m (E.colsL l s) := by
  induction l generalizing s with
  | nil => rfl
  | cons x l ih => simp only [List.cons_append, E.colsL, ih]
theorem colsL_take (l : List E) (k : Nat) (hk : k < l.length) (s : List E × DataW Unit) : E.colsL (l.take (k + 1)) s = l[k].cols (E.colsL (l.take k) s) := by
  rw [List.take_succ_eq_append_getElem hk, colsL_app]
  rfl
mutual
def E.pc : E → Bool
  | .mk o v t n l => (o != wCol || (decide (v = v0) && l.isEmpty && decide (t.length ≤ 32) && decide (n.length ≤ 32))) && E.pcL l
def E.pcL : List E → Bool
  | [] => true
  | x :: l => x.pc && E.pcL l
end
theorem pcL_iff {l : List E} : E.pcL l = true ↔ ∀ x ∈ l, x.pc = true := by
  induction l with
  | nil => simp [E.pcL]
  | cons x l ih => simp [E.pcL, ih]
theorem pc_op {o : List UInt8} {v : Vl} {t n : List UInt8} {l : List E} (ho : o ≠ wCol) (hl : ∀ x ∈ l, x.pc = true) : (E.mk o v t n l).pc = true := by
  have h1 : (o != wCol) = true := by simpa using ho
  simp only [E.pc, h1, Bool.true_or, Bool.true_and]
  exact pcL_iff.2 hl
theorem name_len {res : List UInt8 → Bool} {n : List UInt8} (h : NameOk res n) : n.length ≤ 32 := h.2.2.2.1
theorem fine_pc {res : List UInt8 → Bool} {e : E} (h : Fine res e) : e.pc = true := by
  induction h with
  | lit v hv => exact pc_op (by decide) (by simp)
  | col t n ht hn =>
    have h1 : t.length ≤ 32 := by
      rcases ht with rfl | ht
      · simp
      · exact name_len ht
    have h2 := name_len hn
    simp [col, E.pc, E.pcL, h1, h2]
  | call n l hn hl ih => exact pc_op (by decide) ih
  | all => exact pc_op (by decide) (by simp [star, op1]; exact pc_op (by decide) (by simp))
  | neg x hx ih => exact pc_op (by decide) (by simpa using ih)
  | not x hx ih => exact pc_op (by decide) (by simpa using ih)
  | isn x hx ih => exact pc_op (by decide) (by simpa using ih)
  | nn x hx ih => exact pc_op (by decide) (by simpa using ih)
  | bin w x y hw hx hy ih1 ih2 => exact pc_op (by rintro rfl; exact absurd hw (by decide)) (by simp [ih1, ih2])
  | rel w x y hw hx hy ih1 ih2 => exact pc_op (by rintro rfl; exact absurd hw (by decide)) (by simp [ih1, ih2])
  | like x y hx hy ih1 ih2 => exact pc_op (by decide) (by simp [ih1, ih2])
  | btw x y z hx hy hz ih1 ih2 ih3 => exact pc_op (by decide) (by simp [ih1, ih2, ih3])
  | inn x l hl hx hy ih1 ih2 => exact pc_op (by decide) (by
      intro y hy
      rcases List.mem_cons.mp hy with rfl | hy
      · exact ih1
      · exact ih2 y hy)
theorem kNum_len (b : List UInt8) (i : Int) (h0 : -9223372036854775808 ≤ i) (h1 : i ≤ 9223372036854775807) : (kNum b i).length ≤ b.length + 22 := by
  have := Lib.itoa_length_le i h0 h1
  simp only [kNum, List.length_append, List.length_cons, List.length_nil]
  omega
theorem kStr_len (b s : List UInt8) (hs : s.length ≤ 1000) : (kStr b s).length ≤ b.length + 22 + s.length := by
  have := kNum_len b s.length (by omega) (by omega)
  simp only [kStr, List.length_append]
  omega
theorem cols_len (e : E) : ∀ s : List E × DataW Unit, (e.cols s).1.length ≤ s.1.length + e.size := by
  induction e using E.ind with
  | h o v t n l ih =>
    intro s
    simp only [E.cols, E.size]
    have key : ∀ l : List E, (∀ x ∈ l, ∀ s : List E × DataW Unit, (x.cols s).1.length ≤ s.1.length + x.size) → ∀ s : List E × DataW Unit, (E.colsL l s).1.length ≤ s.1.length + E.sizeL l := by
      intro l
      induction l with
      | nil => intro _ s; simp [E.colsL, E.sizeL]
      | cons x l ihl =>
        intro h s
        have h1 := h x (by simp) s
        have h2 := ihl (fun y hy => h y (by simp [hy])) (x.cols s)
        simp only [E.colsL, E.sizeL]
        omega
    have h3 := key l ih (if (o == wCol) = true then hit (.mk o v t n l) s else s)
    have h4 : (if (o == wCol) = true then hit (.mk o v t n l) s else s).1.length ≤ s.1.length + 1 := by
      split
      · unfold hit
        dsimp only
        split <;> simp
      · omega
    omega
end Go.Proofs.YthohfegnphocbaaGreatDoor
namespace Go.Proofs.YthohfegnphocbaaGreatDoor
open Go.RowKit
theorem tab_below {w : World} {B : Nat} (h : BV.Env w) (hB : 10 ≤ B) : Lib.TabBelow Tryz.prog B w "internal/strconv.uint64pow10" .u64 Lib.pow10Tab := fun _ hb => (h.below hb hB).tab
set_option maxRecDepth 100000 in
set_option maxHeartbeats 4000000 in
theorem num_any (B : Nat) (l : List UInt8) (v : Value) (i : Int) (h0 : -9223372036854775808 ≤ i) (h1 : i ≤ 9223372036854775807) (w : World) (hE : BV.Env w) (hB : 10 ≤ B) (hBw : B ≤ w.heap.size) (h : Own w B v l) (hl : l.length ≤ 1000000) :
    Calls Tryz.prog 131 #[v, .int .i64 i] w fun r w' => ∃ v', r = .returned v' ∧ Own w' B v' (kNum l i) ∧ Below B w w' := by
  have HC := Lib.hid (Tryz.strconv_AppendInt_10 B l.length i h0 h1 v (u8s l) w h hBw (by omega) (tab_below hE hB))
  have hn := Lib.itoa_length_le i h0 h1
  have HK : Hid (kNum l i = (l ++ Lib.itoa i) ++ [32]) := Lib.hid rfl
  generalize kNum l i = kn at *
  have hc : Hid (u8s l ++ Lib.byteCells (Lib.itoa i) = u8s (l ++ Lib.itoa i)) := Lib.hid (by rw [u8s_append]; rfl)
  generalize Lib.itoa i = d at *
  clear hE h
  go_enter Tryz.func131, Tryz.ntmps131
  go_wp2_with fail
  refine HC.out.mono ?_
  rintro r w2 ⟨v2, rfl, ho, b2, -⟩
  have ho2 : Own w2 B v2 (l ++ d) := by
    rw [hc.out] at ho
    unfold Own
    rw [List.length_append]
    exact ho
  have hz2 := b2.size
  obtain ⟨v3, w3, hr, hW⟩ := (Wrote.refl ho2).one 32 (by simp; omega) (by omega)
  have HO : Hid (Own w3 B v3 kn) := Lib.hid (by rw [HK.out]; exact hW.own)
  have HB := Lib.hid (b2.trans (hW.below ho2 (by omega)))
  simp only [show ((32 : UInt8).toNat : Int) = 32 from rfl] at hr
  clear hW ho ho2 b2 hz2 HC HK hc
  go_wp2_with (at_builtin; refine Lib.wpList_append_run_sl _ rfl _ _ 67 rfl _ _ rfl rfl hr ?_)
  go_ret
  exact ⟨_, rfl, HO.out, HB.out⟩
end Go.Proofs.YthohfegnphocbaaGreatDoor
namespace Go.Proofs.YthohfegnphocbaaGreatDoor
open Go.RowKit
def keyParts (t n : List UInt8) : List (List UInt8) := [wCol, [], t, n]
def keyUp (t n : List UInt8) (k : Nat) : List UInt8 := ((keyParts t n).take k).foldl kStr []
theorem idx4_0 (a b c d : ByteArray) (w : World) : (Instr.index 136 (.agg #[.string a, .string b, .string c, .string d]) (.int .i64 0)).run Tryz.prog w = .ok (.string a) w := by kernel_rfl
theorem idx4_1 (a b c d : ByteArray) (w : World) : (Instr.index 136 (.agg #[.string a, .string b, .string c, .string d]) (.int .i64 1)).run Tryz.prog w = .ok (.string b) w := by kernel_rfl
theorem idx4_2 (a b c d : ByteArray) (w : World) : (Instr.index 136 (.agg #[.string a, .string b, .string c, .string d]) (.int .i64 2)).run Tryz.prog w = .ok (.string c) w := by kernel_rfl
theorem idx4_3 (a b c d : ByteArray) (w : World) : (Instr.index 136 (.agg #[.string a, .string b, .string c, .string d]) (.int .i64 3)).run Tryz.prog w = .ok (.string d) w := by kernel_rfl
set_option maxRecDepth 100000 in
set_option maxHeartbeats 8000000 in
theorem key_any (t n : List UInt8) (ht : t.length ≤ 32) (hn : n.length ≤ 32) (A : Option Addr) (c : Nat) (w : World) (hE : BV.Env w) :
    Calls Tryz.prog 93 #[.slice none 0 0, .agg #[.string ⟨#[99, 111, 108]⟩, .int .i64 0, .int .i64 0, .string ⟨#[]⟩, .string (str t), .string (str n), .slice A 0 c]] w fun r w' => ∃ v', r = .returned v' ∧ Own w' (w.heap.size + 1) v' (colKey t n) ∧ Below w.heap.size w w' := by
  have h10 := hE.size
  obtain ⟨W1, hW1, q1, z1, r1⟩ := box7 w (.string ⟨#[99, 111, 108]⟩) (.int .i64 0) (.int .i64 0) (.string ⟨#[]⟩) (.string (str t)) (.string (str n)) (.slice A 0 c)
  have HQ1 := Lib.hid q1
  have HW1 := Lib.hid hW1
  have HO1 := Lib.hid (Own.nil W1 W1.heap.size)
  have HR1 := Lib.hid r1
  have hE1 := hE.below r1 h10
  have h11 : 10 ≤ W1.heap.size := by omega
  obtain ⟨a0, a1, a2, a3, a4, a5, a6⟩ := q1.cells
  have st : (str t).size = t.length := by simp [str, ByteArray.size]
  have sn : (str n).size = n.length := by simp [str, ByteArray.size]
  have u0 : Hid (keyUp t n 0 = []) := Lib.hid rfl
  have u1 : Hid (keyUp t n 1 = kNum (keyUp t n 0) 3 ++ (⟨#[99, 111, 108]⟩ : ByteArray).data.toList) := Lib.hid rfl
  have u2 : Hid (keyUp t n 2 = kNum (keyUp t n 1) 0 ++ (⟨#[]⟩ : ByteArray).data.toList) := Lib.hid rfl
  have u3 : Hid (keyUp t n 3 = kNum (keyUp t n 2) ((str t).size : Nat) ++ (str t).data.toList) := Lib.hid (by rw [st]; rfl)
  have u4 : Hid (keyUp t n 4 = kNum (keyUp t n 3) ((str n).size : Nat) ++ (str n).data.toList) := Lib.hid (by rw [sn]; rfl)
  have e4 : Hid (colKey t n = kNum (kNum (kNum (keyUp t n 4) 0) 0) 0) := Lib.hid rfl
  have l1 : (keyUp t n 1).length ≤ 1000 := by have := kStr_len [] wCol (by decide); show (kStr [] wCol).length ≤ 1000; simp [wCol] at *; omega
  have l2 : (keyUp t n 2).length ≤ 2000 := by have := kStr_len (keyUp t n 1) [] (by simp); show (kStr (keyUp t n 1) []).length ≤ 2000; simp at *; omega
  have l3 : (keyUp t n 3).length ≤ 3000 := by have := kStr_len (keyUp t n 2) t (by omega); show (kStr (keyUp t n 2) t).length ≤ 3000; omega
  have l4 : (keyUp t n 4).length ≤ 4000 := by have := kStr_len (keyUp t n 3) n (by omega); show (kStr (keyUp t n 3) n).length ≤ 4000; omega
  have n4 := kNum_len (keyUp t n 4) 0 (by omega) (by omega)
  have n5 := kNum_len (kNum (keyUp t n 4) 0) 0 (by omega) (by omega)
  have HN := Lib.hid (fun (W : World) (hb : Below W1.heap.size W1 W) (l : List UInt8) (v : Value) (i : Int) (h0 : -9223372036854775808 ≤ i) (h1 : i ≤ 9223372036854775807) (h : Own W W1.heap.size v l) (hl : l.length ≤ 1000000) => num_any W1.heap.size l v i h0 h1 W (hE1.below hb h11) h11 (hb.size) h hl)
  have hstr : ∀ (W : World) (l : List UInt8) (v : Value) (s : ByteArray) (hb : Below W1.heap.size W1 W) (h : Own W W1.heap.size v l), l.length ≤ 10000 → s.size ≤ 1000 → ∃ v' w', (Builtin.append_ #[67, 9] 67 #[v, .string s]).run Tryz.prog W = .ok v' w' ∧ Hid (Own w' W1.heap.size v' (l ++ s.data.toList)) ∧ Hid (Below W1.heap.size W1 w') := by
    intro W l v s hb h hl hs
    obtain ⟨v', w', hr, hW⟩ := (Wrote.refl h).str s (by omega) hb.size
    exact ⟨v', w', hr, Lib.hid hW.own, Lib.hid (hb.trans (hW.below h hb.size))⟩
  have HST := Lib.hid hstr
  have knl : ∀ (l : List UInt8) (i : Int), -9223372036854775808 ≤ i → i ≤ 9223372036854775807 → (kNum l i).length ≤ l.length + 22 := kNum_len
  have k0 := knl (keyUp t n 0) 3 (by omega) (by omega)
  have k1 := knl (keyUp t n 1) 0 (by omega) (by omega)
  have k2 := knl (keyUp t n 2) ((str t).size : Nat) (by omega) (by omega)
  have k3 := knl (keyUp t n 3) ((str n).size : Nat) (by omega) (by omega)
  have l0 : (keyUp t n 0).length ≤ 10 := by rw [u0.out]; simp
  generalize str t = tb at *
  generalize str n = nb at *
  have tb1 : tb.size ≤ 32 := by omega
  have nb1 : nb.size ≤ 32 := by omega
  have HZ1 := Lib.hid z1
  generalize colKey t n = ck at *
  generalize keyUp t n = up at *
  clear hE hE1 q1 hW1 r1 hstr knl z1 h10 h11 st sn ht hn
  go_enter Tryz.func93, Tryz.ntmps93
  go_wp2_with (rw [← HW1.out])
  go_loopw [0, 19] (fun bv iv wr => ∃ (k : Nat) (u : Value), u = bv ∧ k ≤ 4 ∧ iv = .int .i64 k ∧ Hid (Own wr W1.heap.size u (up k)) ∧ Hid (Below W1.heap.size W1 wr)) (fun _ iv _ => 4 - (intOf iv).toNat)
  case atStart => exact ⟨0, _, rfl, by omega, rfl, Lib.hid (by rw [u0.out]; exact HO1.out), Lib.hid (.refl _ _)⟩
  case round =>
    clear HO1
    obtain ⟨k, u, rfl, hk, rfl, HO, HB⟩ := hrel
    have hk5 : k = 0 ∨ k = 1 ∨ k = 2 ∨ k = 3 ∨ k = 4 := by omega
    rcases hk5 with rfl | rfl | rfl | rfl | rfl
    · have hidx := idx4_0 ⟨#[99, 111, 108]⟩ ⟨#[]⟩ tb nb wr
      have H1 := Lib.hid (HN.out wr HB.out (up 0) u 3 (by omega) (by omega) HO.out (by omega))
      go_wp2_with fail
      refine H1.out.mono ?_
      rintro r w2 ⟨v2, rfl, ho2, b2⟩
      obtain ⟨v3, w3, hr, HO3, HB3⟩ := HST.out w2 _ v2 ⟨#[99, 111, 108]⟩ (HB.out.trans b2) ho2 (by omega) (by decide)
      clear ho2 b2 H1
      go_wp2_with (at_builtin; refine Lib.wpList_append_run _ rfl _ _ 67 9 rfl _ _ rfl rfl _ _ hr ?_)
      go_roundw
      case measure => simp [intOf]
      case rel => exact ⟨0 + 1, _, rfl, by omega, by simp, Lib.hid (by rw [u1.out]; exact HO3.out), HB3⟩
    · have hidx := idx4_1 ⟨#[99, 111, 108]⟩ ⟨#[]⟩ tb nb wr
      have H1 := Lib.hid (HN.out wr HB.out (up 1) u 0 (by omega) (by omega) HO.out (by omega))
      go_wp2_with fail
      refine H1.out.mono ?_
      rintro r w2 ⟨v2, rfl, ho2, b2⟩
      obtain ⟨v3, w3, hr, HO3, HB3⟩ := HST.out w2 _ v2 ⟨#[]⟩ (HB.out.trans b2) ho2 (by omega) (by decide)
      clear ho2 b2 H1
      go_wp2_with (at_builtin; refine Lib.wpList_append_run _ rfl _ _ 67 9 rfl _ _ rfl rfl _ _ hr ?_)
      go_roundw
      case measure => simp [intOf]
      case rel => exact ⟨1 + 1, _, rfl, by omega, by simp, Lib.hid (by rw [u2.out]; exact HO3.out), HB3⟩
    · have hidx := idx4_2 ⟨#[99, 111, 108]⟩ ⟨#[]⟩ tb nb wr
      have H1 := Lib.hid (HN.out wr HB.out (up 2) u tb.size (by omega) (by omega) HO.out (by omega))
      go_wp2_with fail
      refine H1.out.mono ?_
      rintro r w2 ⟨v2, rfl, ho2, b2⟩
      obtain ⟨v3, w3, hr, HO3, HB3⟩ := HST.out w2 _ v2 tb (HB.out.trans b2) ho2 (by omega) (by omega)
      clear ho2 b2 H1
      go_wp2_with (at_builtin; refine Lib.wpList_append_run _ rfl _ _ 67 9 rfl _ _ rfl rfl _ _ hr ?_)
      go_roundw
      case measure => simp [intOf]
      case rel => exact ⟨2 + 1, _, rfl, by omega, by simp, Lib.hid (by rw [u3.out]; exact HO3.out), HB3⟩
    · have hidx := idx4_3 ⟨#[99, 111, 108]⟩ ⟨#[]⟩ tb nb wr
      have H1 := Lib.hid (HN.out wr HB.out (up 3) u nb.size (by omega) (by omega) HO.out (by omega))
      go_wp2_with fail
      refine H1.out.mono ?_
      rintro r w2 ⟨v2, rfl, ho2, b2⟩
      obtain ⟨v3, w3, hr, HO3, HB3⟩ := HST.out w2 _ v2 nb (HB.out.trans b2) ho2 (by omega) (by omega)
      clear ho2 b2 H1
      go_wp2_with (at_builtin; refine Lib.wpList_append_run _ rfl _ _ 67 9 rfl _ _ rfl rfl _ _ hr ?_)
      go_roundw
      case measure => simp [intOf]
      case rel => exact ⟨3 + 1, _, rfl, by omega, by simp, Lib.hid (by rw [u4.out]; exact HO3.out), HB3⟩
    · have HQ := Lib.hid (HQ1.out.later HB.out)
      obtain ⟨v0, v1, v2, v3, v4, v5, v6⟩ := HQ.out.cells
      have H1 := Lib.hid (HN.out wr HB.out (up 4) u 0 (by omega) (by omega) HO.out (by omega))
      go_wp2_with fail
      refine H1.out.mono ?_
      rintro r w2 ⟨v2', rfl, ho2, b2⟩
      have HQ2 := Lib.hid (HQ1.out.later (HB.out.trans b2))
      obtain ⟨x0, x1, x2, x3, x4, x5, x6⟩ := HQ2.out.cells
      have HB2 := Lib.hid (HB.out.trans b2)
      have H2 := Lib.hid (HN.out w2 HB2.out _ v2' 0 (by omega) (by omega) ho2 (by omega))
      clear ho2 b2 H1
      go_wp2_with fail
      refine H2.out.mono ?_
      rintro r w3 ⟨v3', rfl, ho3, b3⟩
      have HQ3 := Lib.hid (HQ1.out.later (HB2.out.trans b3))
      obtain ⟨y0, y1, y2, y3, y4, y5, y6⟩ := HQ3.out.cells
      have HB3 := Lib.hid (HB2.out.trans b3)
      have H3 := Lib.hid (HN.out w3 HB3.out _ v3' 0 (by omega) (by omega) ho3 (by omega))
      clear ho3 b3 H2
      go_wp2_with fail
      refine H3.out.mono ?_
      rintro r w4 ⟨v4', rfl, ho4, b4⟩
      have HO4 : Hid (Own w4 W1.heap.size v4' ck) := Lib.hid (by rw [e4.out]; exact ho4)
      have HQ4 := Lib.hid (HQ1.out.later (HB3.out.trans b4))
      obtain ⟨g0, g1, g2, g3, g4, g5, g6⟩ := HQ4.out.cells
      have HB4 := Lib.hid (HR1.out.trans ((HB3.out.trans b4).mono (by have := HZ1.out; omega)))
      clear ho4 b4 H3
      go_wp2_with fail
      refine wp_loop_rounds 1 ?_
      rw [rounds_succ]
      go_wp2_with fail
      go_ret
      exact ⟨_, rfl, by rw [← HZ1.out]; exact HO4.out, HB4.out⟩
end Go.Proofs.YthohfegnphocbaaGreatDoor
namespace Go.Proofs.YthohfegnphocbaaGreatDoor
open Go.RowKit
set_option maxRecDepth 100000 in
set_option maxHeartbeats 2000000 in
theorem clone_none (A : Option Addr) (c : Nat) (w : World) : Calls Tryz.prog 132 #[.slice A 0 c] w fun r w' => (∃ A', r = .returned (.slice A' 0 0)) ∧ Below w.heap.size w w' := by
  cases A with
  | none =>
    have E1 : ∀ w, (binOp .eql 25 (.slice none 0 c) (.slice none 0 0)).run Tryz.prog w = .ok (.bool true) w := fun w => Lib.run_eql_slice_nil w 25 27 none 0 c 0 0 Tryz.underlying25
    go_enter Tryz.func132, Tryz.ntmps132
    go_wp2_with fail
    go_ret
    exact ⟨⟨none, rfl⟩, Below.refl _ _⟩
  | some a =>
    obtain ⟨i0, hi, hz0, hz1, hz2⟩ := info_parts info27
    have E1 : ∀ w, (binOp .eql 25 (.slice (some a) 0 c) (.slice none 0 0)).run Tryz.prog w = .ok (.bool false) w := fun w => Lib.run_eql_slice_nil w 25 27 (some a) 0 c 0 0 Tryz.underlying25
    have HR : Hid ((Builtin.append_ #[25, 25] 25 #[.slice (some ⟨w.heap.size, 0, none⟩) 0 0, .slice (some a) 0 c]).run Tryz.prog (w.alloc (.cells #[] 27)) = .ok (.slice (some ⟨w.heap.size, 0, none⟩) 0 0) (w.alloc (.cells #[] 27))) := Lib.hid
      (run_append_nothing (P := Tryz.prog) (w.alloc (.cells #[] 27)) 25 25 25 27 i0 Tryz.underlying25 hi _ 0 0 (Nat.le_refl _) _ (Src.ofSlice _ Tryz.underlying25 a 0 c [] (by simp) (by intro j u h; simp at h) (by simp)))
    have HB := Lib.hid ((Below.refl w.heap.size w).alloc (Nat.le_refl _) (.cells #[] 27))
    clear hi hz0 hz1 hz2
    go_enter Tryz.func132, Tryz.ntmps132
    go_wp2_with (at_builtin; refine Lib.wpList_append_run_sl _ rfl _ _ 25 rfl _ _ rfl rfl HR.out ?_)
    go_ret
    exact ⟨⟨_, rfl⟩, HB.out⟩
theorem set6 {w : World} {b : Nat} {x0 x1 x2 x3 x4 x5 x6 : Value} (h : B7 w b x0 x1 x2 x3 x4 x5 x6) (u : Value) : ∃ W : World, W = w.setCell ⟨b, 6, none⟩ u ∧ B7 W b x0 x1 x2 x3 x4 x5 u ∧ W.heap.size = w.heap.size ∧ (∀ k, k ≠ b → W.heap[k]? = w.heap[k]?) ∧ ∀ B, B ≤ b → Below B w W := by
  refine ⟨_, rfl, ?_, by simp only [size_setCell], fun k hk => by rw [Below.heap_setCell _ _ _ _ hk], fun B hB => (Below.refl B w).setCell (p := ⟨b, 6, none⟩) hB _⟩
  have h6 := heap_set_same u (o := 6) h
  unfold B7
  simpa only [List.setIfInBounds_toArray, List.set_cons_zero, List.set_cons_succ] using h6
set_option maxRecDepth 100000 in
set_option maxHeartbeats 4000000 in
theorem copied_one (s0 s3 s4 s5 : ByteArray) (i1 i2 : Int) (A : Option Addr) (c : Nat) (w : World) :
    Calls Tryz.prog 94 #[.agg #[.string s0, .int .i64 i1, .int .i64 i2, .string s3, .string s4, .string s5, .slice A 0 c]] w fun r w' => (∃ A', r = .returned (.agg #[.string s0, .int .i64 i1, .int .i64 i2, .string s3, .string s4, .string s5, .slice A' 0 0])) ∧ Below w.heap.size w w' := by
  obtain ⟨W1, hW1, q1, z1, r1⟩ := box7 w (.string s0) (.int .i64 i1) (.int .i64 i2) (.string s3) (.string s4) (.string s5) (.slice A 0 c)
  obtain ⟨W2, hW2, q2, z2, r2⟩ := zero7 W1
  have HQ1 := Lib.hid (q1.later r2)
  have HQ2 := Lib.hid q2
  have HB2 := Lib.hid (r1.trans (r2.mono (by omega)))
  have hzz : w.heap.size < W1.heap.size := by omega
  have HC := Lib.hid (clone_none A c W2)
  have HW1 := Lib.hid hW1
  have HW2 := Lib.hid hW2
  obtain ⟨a0, a1, a2, a3, a4, a5, a6⟩ := HQ1.out.cells
  clear hW1 hW2 q1 q2 r1 r2 z1 z2
  go_enter Tryz.func94, Tryz.ntmps94
  go_wp2_with (first | (rw [← HW1.out]) | (rw [← HW2.out]))
  refine HC.out.mono ?_
  rintro r w3 ⟨⟨A', rfl⟩, b3⟩
  have Q3 := HQ1.out.later b3
  have P3 := HQ2.out.later b3
  obtain ⟨W4, hW4, q4, z4, o4, m4⟩ := set6 Q3 (.slice A' 0 0)
  have P4 := P3.same (o4 _ (by omega))
  obtain ⟨W5, hW5, q5, z5, o5, m5⟩ := stored7 P4 (.string s0) (.int .i64 i1) (.int .i64 i2) (.string s3) (.string s4) (.string s5) (.slice A' 0 0)
  have HB5 := Lib.hid (((HB2.out.trans (b3.mono (by have := HB2.out.size; omega))).trans (m4 w.heap.size (Nat.le_refl _))).trans (m5 w.heap.size (Nat.le_of_lt hzz)))
  have HW4 := Lib.hid hW4
  have HW5 := Lib.hid hW5
  obtain ⟨c0, c1, c2, c3, c4, c5, c6⟩ := Q3.cells
  obtain ⟨g0, g1, g2, g3, g4, g5, g6⟩ := Q3.free
  obtain ⟨d0, d1, d2, d3, d4, d5, d6⟩ := q4.cells
  obtain ⟨k0, k1, k2, k3, k4, k5, k6⟩ := P4.cells
  obtain ⟨f0, f1, f2, f3, f4, f5, f6⟩ := P4.free
  obtain ⟨l0, l1, l2, l3, l4, l5, l6⟩ := q5.cells
  clear hW4 hW5 q4 q5 z4 z5 o4 o5 m4 m5 P3 P4 Q3 b3 a0 a1 a2 a3 a4 a5 a6 HQ1 HQ2 HB2 HC
  go_wp2_with (rw [← HW4.out])
  refine wp_loop_rounds 1 ?_
  rw [rounds_succ]
  go_wp2_with (rw [← HW5.out])
  exact bodyPost_ret (v := .agg #[.string s0, .int .i64 i1, .int .i64 i2, .string s3, .string s4, .string s5, .slice A' 0 0]) (by simp [results, Tryz.results94, go_sem, l0, l1, l2, l3, l4, l5, l6]) rfl ⟨⟨_, rfl⟩, HB5.out⟩
end Go.Proofs.YthohfegnphocbaaGreatDoor
namespace Go.Proofs.YthohfegnphocbaaGreatDoor
open Go.RowKit
theorem step_append_runy {ops : Array Oper} (w : World) {o : Oper} {a : Act} {K : Act → World → Prop} {Q : Exit → Act → World → Prop} {E : Prop} (hgd : o.guard = none) (s x : Operand) (t u : TypeId)
    (ho : o.op = .call { callee := .builtin .append, args := #[s, x], argTypes := #[t, u] }) (v y : Value) (hs : a.eval s = v) (hx : a.eval x = y) {v' : Value} {w' : World}
    (hr : (Builtin.append_ #[t, u] o.type #[v, y]).run Tryz.prog w = .ok v' w') (h : K (a.put o.dst v') w') : if Region.wanted o (yielded ops a.tmps) = true then Oper.wp Tryz.prog o a w K Q else E := by
  have hw : Region.wanted o (yielded ops a.tmps) = true := by simp [Region.wanted, hgd]
  rw [if_pos hw]
  unfold Oper.wp execOp
  simp only [ho, resolve, invoke, builtin, Sem.run_bind, Sem.run_pure, Result.andThen_ok, List.map_toArray, List.map_cons, List.map_nil, hs, hx, hr]
  exact h
theorem list_gotY {w : World} {S : Nat → Prop} {B : Nat} {e : E} {d : Bool} {s0 s3 s4 s5 : ByteArray} {i1 i2 : Int} {A9 : Option Addr} {n9 c9 : Nat} (G : Got w S e d (.agg #[.string s0, .int .i64 i1, .int .i64 i2, .string s3, .string s4, .string s5, .slice A9 n9 c9])) (hB : B ≤ w.heap.size) (hS : ∀ k, S k → B ≤ k) :
    ∃ W : World, W = w.alloc (.cells #[.string s0, .int .i64 i1, .int .i64 i2, .string s3, .string s4, .string s5, .slice A9 n9 c9] 27) ∧ Below w.heap.size w W ∧ LGot W (fun k => B ≤ k) [e] d (.slice (some ⟨w.heap.size, 0, none⟩) 1 1) := by
  obtain ⟨r, hx, hs, hr⟩ := G.row
  refine ⟨_, rfl, (Below.refl _ _).alloc (Nat.le_refl _) _, ?_⟩
  rw [Value.agg.inj hx]
  have := ownL_one (w := w) (B := B) (S := fun k => B ≤ k) (e := e) (d := d) r (hs.keep (fun k hk _ => ⟨hS k hk, rfl⟩) (Nat.le_refl _)) hr hB
  exact this.got (fun k hk => hk)
end Go.Proofs.YthohfegnphocbaaGreatDoor
namespace Go.Proofs.YthohfegnphocbaaGreatDoor
open Go.RowKit Go.WideMaps Go.Maps
theorem law9 : Keyed Tryz.prog 9 := string_keyed Tryz.underlying9
theorem zero3 (w : World) : (zeroValue 3).run Tryz.prog w = .ok (.int .i64 0) w := by kernel_rfl
theorem key_of (l : List UInt8) (h : l.length ≤ 1000000) : keyOf Tryz.prog 9 (.string (str l)) = some (.string l) := by
  have := keyOf_string_mk (s := str l) Tryz.underlying9 (by unfold maxLen; simp [str, ByteArray.size]; omega)
  rwa [str_list] at this
structure FAt (w : World) (B b mb : Nat) (st : List E × DataW Unit) (u : Value) (n : Nat) : Prop where
  box : w.heap[b]? = some (.cells #[u, .map (some mb)] 77 (0, 0))
  own : ∃ rs : List Rw, w.ownsRow B 27 7 u rs.length (flatE rs) ∧ (∀ r ∈ rs, r.1.l = [] ∧ r.2.2 = 0) ∧ rs.map (·.1) = st.1
  map : w.ownsMap Tryz.prog 9 (plainElem Tryz.prog 3) mb n st.2
  bB : B ≤ b
  mB : B ≤ mb
  ne : b ≠ mb
  ub : u.ownBlock ≠ some b
  um : u.ownBlock ≠ some mb
section
variable {w w' : World} {B b mb n : Nat} {st : List E × DataW Unit} {u : Value}
theorem FAt.lt (h : FAt w B b mb st u n) : b < w.heap.size := (Array.getElem?_eq_some_iff.1 h.box).1
theorem FAt.cells (h : FAt w B b mb st u n) : w.cell? ⟨b, 0, none⟩ = some u ∧ w.cell? ⟨b, 1, none⟩ = some (.map (some mb)) ∧ w.frozen? ⟨b, 0, none⟩ = false :=
  ⟨by rw [Lib.cell_of_heap h.box]; rfl, by rw [Lib.cell_of_heap h.box]; rfl, Lib.frozen_of_heap h.box 0⟩
theorem FAt.later (h : FAt w B b mb st u n) (hb : Below w.heap.size w w') : FAt w' B b mb st u n := by
  have hg : w.grownBy w' none := ⟨hb.os, hb.tape, hb.output, hb.size, fun k hk _ => hb.block k hk⟩
  obtain ⟨rs, h1, h2, h3⟩ := h.own
  exact ⟨(hb.block b h.lt).trans h.box, ⟨rs, h1.kept hg (by cases u.ownBlock <;> simp), h2, h3⟩, h.map.kept hg (by simp), h.bB, h.mB, h.ne, h.ub, h.um⟩
theorem FAt.counted {n' : Nat} {D' : DataW Unit} (h : FAt w B b mb st u n) (ho : w'.ownsMap Tryz.prog 9 (plainElem Tryz.prog 3) mb n' D') (hg : w.grownBy w' (some mb)) : FAt w' B b mb (st.1, D') u n' := by
  obtain ⟨rs, h1, h2, h3⟩ := h.own
  exact ⟨(hg.block b h.lt (by intro e; injection e with e; exact h.ne e)).trans h.box, ⟨rs, h1.kept hg (.inr h.um), h2, h3⟩, ho, h.bB, h.mB, h.ne, h.ub, h.um⟩
theorem FAt.own_lt (h : FAt w B b mb st u n) {k : Nat} (hk : u.ownBlock = some k) : k < w.heap.size := by
  obtain ⟨rs, h1, -⟩ := h.own
  exact (h1.lt k hk).2
theorem FAt.size (h : FAt w B b mb st u n) : ∃ A c, u = .slice A st.1.length c := by
  obtain ⟨rs, h1, -, h3⟩ := h.own
  rw [← h3, List.length_map]
  rcases h1.2 with ⟨hv, h0⟩ | ⟨g, cap, cur, hv, _⟩
  · exact ⟨none, 0, by rw [hv, h0]⟩
  · exact ⟨_, _, hv⟩
def zero7V : List Value := [.string ⟨#[]⟩, .int .i64 0, .int .i64 0, .string ⟨#[]⟩, .string ⟨#[]⟩, .string ⟨#[]⟩, .slice none 0 0]
theorem FAt.room (h : FAt w B b mb st u n) {blk : Nat} (hz : w.heap[blk]? = some (.cells zero7V.toArray 27 (0, 0))) (hm : st.1.length ≤ 1000000) :
    ∃ g cap w5, (Builtin.append_ #[25, 25] 25 #[u, .slice (some ⟨blk, 0, none⟩) 1 1]).run Tryz.prog w = .ok (.slice (some ⟨g, 0, none⟩) (st.1.length + 1) cap) w5 ∧ (∃ rs : List Rw, rs.length = st.1.length ∧ w5.ownsRow B 27 7 (.slice (some ⟨g, 0, none⟩) (st.1.length + 1) cap) (st.1.length + 1) (flatE rs ++ zero7V) ∧ (∀ r ∈ rs, r.1.l = [] ∧ r.2.2 = 0) ∧ rs.map (·.1) = st.1) ∧ Below B w w5 ∧ g ≠ b ∧ g ≠ mb ∧
      w5.heap[b]? = some (.cells #[u, .map (some mb)] 77 (0, 0)) ∧ w5.ownsMap Tryz.prog 9 (plainElem Tryz.prog 3) mb n st.2 ∧ ∀ k, k < w.heap.size → u.ownBlock ≠ some k → g ≠ k ∧ w5.heap[k]? = w.heap[k]? := by
  obtain ⟨i0, hi, hz0, hz1, hz2⟩ := info_parts info27
  obtain ⟨rs, h1, h2, h3⟩ := h.own
  have hlen : rs.length = st.1.length := by rw [← h3, List.length_map]
  have hBw : B ≤ w.heap.size := Nat.le_of_lt (Nat.lt_of_le_of_lt h.bB h.lt)
  have hcell : ∀ j v, zero7V[j]? = some v → w.cell? ((⟨blk, 0, none⟩ : Addr).add j) = some v := by
    intro j v hv
    rw [WideShapes.add_plain, Lib.cell_of_heap hz]
    simpa using hv
  obtain ⟨v', w', g1, g2, g3, g4, g5⟩ := run_append_own_at (P := Tryz.prog) w B 25 25 27 i0 _ 7 104 Tryz.underlying25 hi hz0 hz1 hz2 rfl (by decide) u rs.length (flatE rs) h1 ⟨blk, 0, none⟩ 1 1 zero7V (by simp [zero7V]) hcell (by intro v hv; simp [zero7V] at hv; rcases hv with rfl | rfl | rfl | rfl <;> rfl) (by unfold maxLen; omega) (by omega) hBw
  have hsh : ∃ g cap, v' = .slice (some ⟨g, 0, none⟩) (rs.length + 1) cap := by
    rcases g2.2 with ⟨hv, h0⟩ | ⟨g, cap, cur, hv, _⟩
    · omega
    · exact ⟨g, cap, hv⟩
  obtain ⟨g, cap, rfl⟩ := hsh
  have hbb : ∀ k, k < w.heap.size → u.ownBlock ≠ some k → g ≠ k := by
    intro k hk hu e
    subst e
    rcases g5 with g5 | g5
    · exact hu g5.symm
    · injection g5 with g5; simp at g5; omega
  rw [hlen] at g1 g2
  refine ⟨g, cap, w', g1, ⟨rs, hlen, g2, h2, h3⟩, (Below.refl B w).grown g3 hBw (fun k hk => (h1.lt k hk).1), hbb b h.lt h.ub, hbb mb h.map.lt h.um, ?_, h.map.kept g3 (fun e => h.um e.symm), fun k hk hu => ⟨hbb k hk hu, g3.block k hk (fun e => hu e.symm)⟩⟩
  exact (g3.block b h.lt (fun e => h.ub e.symm)).trans h.box
theorem set_behind (xs ys : List Value) (m j : Nat) (hm : xs.length = m) (v : Value) : (xs ++ ys).set (m + j) v = xs ++ ys.set j v := by
  subst hm
  rw [List.set_append_right _ _ (by omega)]
  simp
theorem row_put {w5 : World} {g cap m : Nat} {rs : List Rw} (hl : rs.length = m) (h : w5.ownsRow B 27 7 (.slice (some ⟨g, 0, none⟩) (m + 1) cap) (m + 1) (flatE rs ++ zero7V)) (r : Rw) (c0 c1 c2 c3 c4 c5 c6 : Value) (hr : rowCells r = [c0, c1, c2, c3, c4, c5, c6]) :
    (((((((w5.setCell ⟨g, m * 7, none⟩ c0).setCell ⟨g, m * 7 + 1, none⟩ c1).setCell ⟨g, m * 7 + 2, none⟩ c2).setCell ⟨g, m * 7 + 3, none⟩ c3).setCell ⟨g, m * 7 + 4, none⟩ c4).setCell ⟨g, m * 7 + 5, none⟩ c5).setCell ⟨g, m * 7 + 6, none⟩ c6).ownsRow B 27 7 (.slice (some ⟨g, 0, none⟩) (m + 1) cap) (rs ++ [r]).length (flatE (rs ++ [r])) := by
  have hf : (flatE rs).length = m * 7 := by rw [flatE_len, hl]
  have k := ((((((h.stored (m * 7) c0).1.stored (m * 7 + 1) c1).1.stored (m * 7 + 2) c2).1.stored (m * 7 + 3) c3).1.stored (m * 7 + 4) c4).1.stored (m * 7 + 5) c5).1.stored (m * 7 + 6) c6 |>.1
  have e0 := set_behind (flatE rs) zero7V (m * 7) 0 hf c0
  rw [Nat.add_zero] at e0
  rw [e0, set_behind _ _ _ 1 hf, set_behind _ _ _ 2 hf, set_behind _ _ _ 3 hf, set_behind _ _ _ 4 hf, set_behind _ _ _ 5 hf, set_behind _ _ _ 6 hf] at k
  have e1 : flatE (rs ++ [r]) = flatE rs ++ [c0, c1, c2, c3, c4, c5, c6] := by rw [flatE_append, ← hr]; simp [flatE]
  rw [e1, List.length_append, hl]
  exact k
end
end Go.Proofs.YthohfegnphocbaaGreatDoor
namespace Go.Proofs.YthohfegnphocbaaGreatDoor
open Go.RowKit Go.WideMaps Go.Maps
section
variable {w w5 : World} {B b mb n m g cap : Nat} {st : List E × DataW Unit} {u c0 c1 c2 c3 c4 c5 c6 : Value}
theorem set_grown (w : World) (b o : Nat) (v : Value) : w.grownBy (w.setCell ⟨b, o, none⟩ v) (some b) :=
  ⟨rfl, rfl, rfl, Nat.le_of_eq (size_setCell w _ v).symm, fun k _ hne => Below.heap_setCell _ _ _ _ (fun e => hne (by rw [e]))⟩
theorem nest_far (w : World) (g o k : Nat) (c0 c1 c2 c3 c4 c5 c6 : Value) (hk : k ≠ g) : (((((((w.setCell ⟨g, o, none⟩ c0).setCell ⟨g, o + 1, none⟩ c1).setCell ⟨g, o + 2, none⟩ c2).setCell ⟨g, o + 3, none⟩ c3).setCell ⟨g, o + 4, none⟩ c4).setCell ⟨g, o + 5, none⟩ c5).setCell ⟨g, o + 6, none⟩ c6).heap[k]? = w.heap[k]? := by
  rw [Below.heap_setCell _ _ _ _ hk, Below.heap_setCell _ _ _ _ hk, Below.heap_setCell _ _ _ _ hk, Below.heap_setCell _ _ _ _ hk, Below.heap_setCell _ _ _ _ hk, Below.heap_setCell _ _ _ _ hk, Below.heap_setCell _ _ _ _ hk]
theorem nest_below (w : World) (g o B : Nat) (c0 c1 c2 c3 c4 c5 c6 : Value) (hB : B ≤ g) : Below B w (((((((w.setCell ⟨g, o, none⟩ c0).setCell ⟨g, o + 1, none⟩ c1).setCell ⟨g, o + 2, none⟩ c2).setCell ⟨g, o + 3, none⟩ c3).setCell ⟨g, o + 4, none⟩ c4).setCell ⟨g, o + 5, none⟩ c5).setCell ⟨g, o + 6, none⟩ c6) :=
  (((((((Below.refl B w).setCell (p := ⟨g, o, none⟩) hB _).setCell (p := ⟨g, o + 1, none⟩) hB _).setCell (p := ⟨g, o + 2, none⟩) hB _).setCell (p := ⟨g, o + 3, none⟩) hB _).setCell (p := ⟨g, o + 4, none⟩) hB _).setCell (p := ⟨g, o + 5, none⟩) hB _).setCell (p := ⟨g, o + 6, none⟩) hB _
theorem nest_map (w : World) (g o mb n : Nat) (D : DataW Unit) (c0 c1 c2 c3 c4 c5 c6 : Value) (hg : g ≠ mb) (h : w.ownsMap Tryz.prog 9 (plainElem Tryz.prog 3) mb n D) : (((((((w.setCell ⟨g, o, none⟩ c0).setCell ⟨g, o + 1, none⟩ c1).setCell ⟨g, o + 2, none⟩ c2).setCell ⟨g, o + 3, none⟩ c3).setCell ⟨g, o + 4, none⟩ c4).setCell ⟨g, o + 5, none⟩ c5).setCell ⟨g, o + 6, none⟩ c6).ownsMap Tryz.prog 9 (plainElem Tryz.prog 3) mb n D := by
  have hne : some mb ≠ some g := fun e => by injection e with e; exact hg e.symm
  exact ((((((h.kept (set_grown _ g _ _) hne).kept (set_grown _ g _ _) hne).kept (set_grown _ g _ _) hne).kept (set_grown _ g _ _) hne).kept (set_grown _ g _ _) hne).kept (set_grown _ g _ _) hne).kept (set_grown _ g _ _) hne
theorem row_cells {rs : List Rw} (hl : rs.length = m) (h : w.ownsRow B 27 7 (.slice (some ⟨g, 0, none⟩) (m + 1) cap) (m + 1) (flatE rs ++ zero7V)) : (w.cell? ⟨g, m * 7, none⟩ = some (.string ⟨#[]⟩) ∧ w.cell? ⟨g, m * 7 + 1, none⟩ = some (.int .i64 0) ∧ w.cell? ⟨g, m * 7 + 2, none⟩ = some (.int .i64 0) ∧ w.cell? ⟨g, m * 7 + 3, none⟩ = some (.string ⟨#[]⟩) ∧ w.cell? ⟨g, m * 7 + 4, none⟩ = some (.string ⟨#[]⟩) ∧ w.cell? ⟨g, m * 7 + 5, none⟩ = some (.string ⟨#[]⟩) ∧ w.cell? ⟨g, m * 7 + 6, none⟩ = some (.slice none 0 0)) ∧ w.frozen? ⟨g, m * 7, none⟩ = false ∧ w.frozen? ⟨g, m * 7 + 1, none⟩ = false ∧ w.frozen? ⟨g, m * 7 + 2, none⟩ = false ∧ w.frozen? ⟨g, m * 7 + 3, none⟩ = false ∧ w.frozen? ⟨g, m * 7 + 4, none⟩ = false ∧ w.frozen? ⟨g, m * 7 + 5, none⟩ = false ∧ w.frozen? ⟨g, m * 7 + 6, none⟩ = false := by
  have hf : (flatE rs).length = m * 7 := by rw [flatE_len, hl]
  have hc := h.cells (g := g) rfl
  have key : ∀ j v, zero7V[j]? = some v → w.cell? ⟨g, m * 7 + j, none⟩ = some v := by
    intro j v hv
    have := hc (m * 7 + j) v (by rw [List.getElem?_append_right (by omega), hf, Nat.add_sub_cancel_left]; exact hv)
    rwa [WideShapes.add_plain, Nat.zero_add] at this
  exact ⟨⟨key 0 _ rfl, key 1 _ rfl, key 2 _ rfl, key 3 _ rfl, key 4 _ rfl, key 5 _ rfl, key 6 _ rfl⟩, World.ownsRow.frozenAt h _, World.ownsRow.frozenAt h _, World.ownsRow.frozenAt h _, World.ownsRow.frozenAt h _, World.ownsRow.frozenAt h _, World.ownsRow.frozenAt h _, World.ownsRow.frozenAt h _⟩

theorem FAt.place (h : FAt w B b mb st u n) {blk : Nat} (hz : w.heap[blk]? = some (.cells #[.string ⟨#[]⟩, .int .i64 0, .int .i64 0, .string ⟨#[]⟩, .string ⟨#[]⟩, .string ⟨#[]⟩, .slice none 0 0] 27 (0, 0))) (hm : st.1.length ≤ 1000000) (hml : st.1.length = m) (e : E) (A' : Option Addr) (hl : e.l = []) (hr : rowCells (e, A', 0) = [c0, c1, c2, c3, c4, c5, c6]) :
    ∃ g cap w5, (Builtin.append_ #[25, 25] 25 #[u, .slice (some ⟨blk, 0, none⟩) 1 1]).run Tryz.prog w = .ok (.slice (some ⟨g, 0, none⟩) (m + 1) cap) w5 ∧ ((w5.cell? ⟨g, m * 7, none⟩ = some (.string ⟨#[]⟩) ∧ w5.cell? ⟨g, m * 7 + 1, none⟩ = some (.int .i64 0) ∧ w5.cell? ⟨g, m * 7 + 2, none⟩ = some (.int .i64 0) ∧ w5.cell? ⟨g, m * 7 + 3, none⟩ = some (.string ⟨#[]⟩) ∧ w5.cell? ⟨g, m * 7 + 4, none⟩ = some (.string ⟨#[]⟩) ∧ w5.cell? ⟨g, m * 7 + 5, none⟩ = some (.string ⟨#[]⟩) ∧ w5.cell? ⟨g, m * 7 + 6, none⟩ = some (.slice none 0 0)) ∧ w5.frozen? ⟨g, m * 7, none⟩ = false ∧ w5.frozen? ⟨g, m * 7 + 1, none⟩ = false ∧ w5.frozen? ⟨g, m * 7 + 2, none⟩ = false ∧ w5.frozen? ⟨g, m * 7 + 3, none⟩ = false ∧ w5.frozen? ⟨g, m * 7 + 4, none⟩ = false ∧ w5.frozen? ⟨g, m * 7 + 5, none⟩ = false ∧ w5.frozen? ⟨g, m * 7 + 6, none⟩ = false) ∧ (((w5.setCell ⟨b, 0, none⟩ (.slice (some ⟨g, 0, none⟩) (m + 1) cap)).cell? ⟨g, m * 7, none⟩ = some (.string ⟨#[]⟩) ∧ (w5.setCell ⟨b, 0, none⟩ (.slice (some ⟨g, 0, none⟩) (m + 1) cap)).cell? ⟨g, m * 7 + 1, none⟩ = some (.int .i64 0) ∧ (w5.setCell ⟨b, 0, none⟩ (.slice (some ⟨g, 0, none⟩) (m + 1) cap)).cell? ⟨g, m * 7 + 2, none⟩ = some (.int .i64 0) ∧ (w5.setCell ⟨b, 0, none⟩ (.slice (some ⟨g, 0, none⟩) (m + 1) cap)).cell? ⟨g, m * 7 + 3, none⟩ = some (.string ⟨#[]⟩) ∧ (w5.setCell ⟨b, 0, none⟩ (.slice (some ⟨g, 0, none⟩) (m + 1) cap)).cell? ⟨g, m * 7 + 4, none⟩ = some (.string ⟨#[]⟩) ∧ (w5.setCell ⟨b, 0, none⟩ (.slice (some ⟨g, 0, none⟩) (m + 1) cap)).cell? ⟨g, m * 7 + 5, none⟩ = some (.string ⟨#[]⟩) ∧ (w5.setCell ⟨b, 0, none⟩ (.slice (some ⟨g, 0, none⟩) (m + 1) cap)).cell? ⟨g, m * 7 + 6, none⟩ = some (.slice none 0 0)) ∧ (w5.setCell ⟨b, 0, none⟩ (.slice (some ⟨g, 0, none⟩) (m + 1) cap)).frozen? ⟨g, m * 7, none⟩ = false ∧ (w5.setCell ⟨b, 0, none⟩ (.slice (some ⟨g, 0, none⟩) (m + 1) cap)).frozen? ⟨g, m * 7 + 1, none⟩ = false ∧ (w5.setCell ⟨b, 0, none⟩ (.slice (some ⟨g, 0, none⟩) (m + 1) cap)).frozen? ⟨g, m * 7 + 2, none⟩ = false ∧ (w5.setCell ⟨b, 0, none⟩ (.slice (some ⟨g, 0, none⟩) (m + 1) cap)).frozen? ⟨g, m * 7 + 3, none⟩ = false ∧ (w5.setCell ⟨b, 0, none⟩ (.slice (some ⟨g, 0, none⟩) (m + 1) cap)).frozen? ⟨g, m * 7 + 4, none⟩ = false ∧ (w5.setCell ⟨b, 0, none⟩ (.slice (some ⟨g, 0, none⟩) (m + 1) cap)).frozen? ⟨g, m * 7 + 5, none⟩ = false ∧ (w5.setCell ⟨b, 0, none⟩ (.slice (some ⟨g, 0, none⟩) (m + 1) cap)).frozen? ⟨g, m * 7 + 6, none⟩ = false) ∧
      (w5.cell? ⟨b, 0, none⟩ = some u ∧ w5.frozen? ⟨b, 0, none⟩ = false ∧ (((((((w5.setCell ⟨g, m * 7, none⟩ c0).setCell ⟨g, m * 7 + 1, none⟩ c1).setCell ⟨g, m * 7 + 2, none⟩ c2).setCell ⟨g, m * 7 + 3, none⟩ c3).setCell ⟨g, m * 7 + 4, none⟩ c4).setCell ⟨g, m * 7 + 5, none⟩ c5).setCell ⟨g, m * 7 + 6, none⟩ c6).cell? ⟨b, 0, none⟩ = some u ∧ (((((((w5.setCell ⟨g, m * 7, none⟩ c0).setCell ⟨g, m * 7 + 1, none⟩ c1).setCell ⟨g, m * 7 + 2, none⟩ c2).setCell ⟨g, m * 7 + 3, none⟩ c3).setCell ⟨g, m * 7 + 4, none⟩ c4).setCell ⟨g, m * 7 + 5, none⟩ c5).setCell ⟨g, m * 7 + 6, none⟩ c6).frozen? ⟨b, 0, none⟩ = false) ∧
      (∃ W9, W9 = (((((((w5.setCell ⟨g, m * 7, none⟩ c0).setCell ⟨g, m * 7 + 1, none⟩ c1).setCell ⟨g, m * 7 + 2, none⟩ c2).setCell ⟨g, m * 7 + 3, none⟩ c3).setCell ⟨g, m * 7 + 4, none⟩ c4).setCell ⟨g, m * 7 + 5, none⟩ c5).setCell ⟨g, m * 7 + 6, none⟩ c6).setCell ⟨b, 0, none⟩ (.slice (some ⟨g, 0, none⟩) (m + 1) cap) ∧ Hid (FAt W9 B b mb (st.1 ++ [e], st.2) (.slice (some ⟨g, 0, none⟩) (m + 1) cap) n) ∧ Hid (Below B w W9) ∧ ∀ k, k < w.heap.size → k ≠ b → u.ownBlock ≠ some k → W9.heap[k]? = w.heap[k]?) ∧
      ∃ W9, W9 = ((((((((w5.setCell ⟨b, 0, none⟩ (.slice (some ⟨g, 0, none⟩) (m + 1) cap)).setCell ⟨g, m * 7, none⟩ c0).setCell ⟨g, m * 7 + 1, none⟩ c1).setCell ⟨g, m * 7 + 2, none⟩ c2).setCell ⟨g, m * 7 + 3, none⟩ c3).setCell ⟨g, m * 7 + 4, none⟩ c4).setCell ⟨g, m * 7 + 5, none⟩ c5).setCell ⟨g, m * 7 + 6, none⟩ c6) ∧ Hid (FAt W9 B b mb (st.1 ++ [e], st.2) (.slice (some ⟨g, 0, none⟩) (m + 1) cap) n) ∧ Hid (Below B w W9) ∧ ∀ k, k < w.heap.size → k ≠ b → u.ownBlock ≠ some k → W9.heap[k]? = w.heap[k]? := by
  obtain ⟨g, cap, w5, hrun, ⟨rs, hrl, own5, hrs, hrm⟩, hb5, hgb, hgm, box5, map5, far5⟩ := h.room hz hm
  rw [hml] at hrun hrl own5
  have hBg : B ≤ g := (World.ownsRow.lt own5 g rfl).1
  have hbB := h.bB
  have ownG : (w5.setCell ⟨b, 0, none⟩ (.slice (some ⟨g, 0, none⟩) (m + 1) cap)).ownsRow B 27 7 (.slice (some ⟨g, 0, none⟩) (m + 1) cap) (m + 1) (flatE rs ++ zero7V) := ownsRow_setCell_other own5 (a := ⟨b, 0, none⟩) (by intro e; injection e with e; exact hgb e) _
  have boxG : (w5.setCell ⟨b, 0, none⟩ (.slice (some ⟨g, 0, none⟩) (m + 1) cap)).heap[b]? = some (.cells #[(.slice (some ⟨g, 0, none⟩) (m + 1) cap), .map (some mb)] 77 (0, 0)) := by
    have := heap_set_same (.slice (some ⟨g, 0, none⟩) (m + 1) cap) (o := 0) box5
    simpa using this
  have mapG : (w5.setCell ⟨b, 0, none⟩ (.slice (some ⟨g, 0, none⟩) (m + 1) cap)).ownsMap Tryz.prog 9 (plainElem Tryz.prog 3) mb n st.2 := map5.kept (set_grown _ b _ _) (by intro e; injection e with e; exact h.ne e.symm)
  have rall : ∀ r ∈ rs ++ [((e, A', 0) : Rw)], r.1.l = [] ∧ r.2.2 = 0 := by
    intro r hr2
    rcases List.mem_append.1 hr2 with h1 | h1
    · exact hrs r h1
    · rw [List.mem_singleton] at h1
      subst h1
      exact ⟨hl, rfl⟩
  have rmap : (rs ++ [((e, A', 0) : Rw)]).map (·.1) = st.1 ++ [e] := by rw [List.map_append, hrm]; rfl
  have boxT : (((((((w5.setCell ⟨g, m * 7, none⟩ c0).setCell ⟨g, m * 7 + 1, none⟩ c1).setCell ⟨g, m * 7 + 2, none⟩ c2).setCell ⟨g, m * 7 + 3, none⟩ c3).setCell ⟨g, m * 7 + 4, none⟩ c4).setCell ⟨g, m * 7 + 5, none⟩ c5).setCell ⟨g, m * 7 + 6, none⟩ c6).heap[b]? = some (.cells #[u, .map (some mb)] 77 (0, 0)) := (nest_far _ _ _ _ _ _ _ _ _ _ _ (Ne.symm hgb)).trans box5
  refine ⟨g, cap, w5, hrun, row_cells hrl own5, row_cells hrl ownG, ⟨by rw [Lib.cell_of_heap box5]; rfl, Lib.frozen_of_heap box5 0, by rw [Lib.cell_of_heap boxT]; rfl, Lib.frozen_of_heap boxT 0⟩, ⟨_, rfl, Lib.hid ?_, Lib.hid ?_, fun k hk hkb hku => ?_⟩, ⟨_, rfl, Lib.hid ?_, Lib.hid ?_, fun k hk hkb hku => ?_⟩⟩
  · refine ⟨?_, ⟨rs ++ [(e, A', 0)], ownsRow_setCell_other (row_put hrl own5 (e, A', 0) c0 c1 c2 c3 c4 c5 c6 hr) (a := ⟨b, 0, none⟩) (by intro e; injection e with e; exact hgb e) _, rall, rmap⟩, (nest_map _ _ _ _ _ _ _ _ _ _ _ _ _ hgm map5).kept (set_grown _ b _ _) (by intro e; injection e with e; exact h.ne e.symm), h.bB, h.mB, h.ne, by intro e; injection e with e; exact hgb e, by intro e; injection e with e; exact hgm e⟩
    have := heap_set_same (.slice (some ⟨g, 0, none⟩) (m + 1) cap) (o := 0) boxT
    simpa using this
  · exact (hb5.trans (nest_below _ _ _ _ _ _ _ _ _ _ _ hBg)).setCell (p := ⟨b, 0, none⟩) hbB _
  · rw [Below.heap_setCell _ _ _ _ hkb, nest_far _ _ _ _ _ _ _ _ _ _ _ (Ne.symm (far5 k hk hku).1)]
    exact (far5 k hk hku).2
  · exact ⟨(nest_far _ _ _ _ _ _ _ _ _ _ _ (Ne.symm hgb)).trans boxG, ⟨rs ++ [(e, A', 0)], row_put hrl ownG (e, A', 0) c0 c1 c2 c3 c4 c5 c6 hr, rall, rmap⟩, nest_map _ _ _ _ _ _ _ _ _ _ _ _ _ hgm mapG, h.bB, h.mB, h.ne, by intro e; injection e with e; exact hgb e, by intro e; injection e with e; exact hgm e⟩
  · exact (hb5.setCell (p := ⟨b, 0, none⟩) hbB _).trans (nest_below _ _ _ _ _ _ _ _ _ _ _ hBg)
  · rw [nest_far _ _ _ _ _ _ _ _ _ _ _ (Ne.symm (far5 k hk hku).1), Below.heap_setCell _ _ _ _ hkb]
    exact (far5 k hk hku).2
end
end Go.Proofs.YthohfegnphocbaaGreatDoor
