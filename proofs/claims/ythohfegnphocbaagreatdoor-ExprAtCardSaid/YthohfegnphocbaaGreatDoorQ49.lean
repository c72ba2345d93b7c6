/- The reference's rel: what is told at each of its ends, and what is kept between. No condition. -/
import Derived.Test.YthohfegnphocbaaGreatDoorQ48
import Derived.Lib.SlFresh
import Derived.Deep.AppendLies
namespace Go.Proofs.YthohfegnphocbaaGreatDoor
open Go.RowKit
def Rtd (p : Nat) (y : X E) (Q : Nat) (D : Bool) (e : E) : Prop := endD y = D ∧ endP p y = Q ∧ (D = false → endV y = e)
theorem rtd_step {P Q : Nat} {D : Bool} {e : E} {r : X E} (h : Rtd (P + 1) r Q D e) : Rtd P (seqX (okX () 1) fun _ _ => r) Q D e := by
  obtain ⟨h1, h2, h3⟩ := h
  rcases r with q | ⟨a, m⟩
  · exact ⟨h1, by rw [← h2]; show P + (1 + q) = P + 1 + q; omega, h3⟩
  · exact ⟨h1, by rw [← h2]; show P + (1 + m) = P + 1 + m; omega, h3⟩
theorem rtd_map {P Q : Nat} {D : Bool} {e : E} {r : X E} (f : E → E) (h : Rtd P r Q D e) : Rtd P (seqX r fun x _ => okX (f x) 0) Q D (f e) := by
  obtain ⟨h1, h2, h3⟩ := h
  rcases r with q | ⟨a, m⟩
  · exact ⟨h1, h2, fun hh => by rw [← h1] at hh; cases hh⟩
  · exact ⟨h1, h2, fun hh => by have := h3 hh; show f a = f e; rw [← this]; rfl⟩
theorem rtd_self (P : Nat) (x2 : X E) : Rtd P x2 (endP P x2) (endD x2) (endV x2) := ⟨rfl, rfl, fun _ => rfl⟩
theorem rtd_need {ts : List T} {P : Nat} {s : List UInt8} {z : Bool} (e : E) (hz : isS s (ts.drop P) = z) : Rtd P (seqX (needX s (ts.drop P)) fun _ _ => okX e 0) (stepP z P) (!z) e := by
  unfold needX
  cases z with
  | true => rw [if_pos hz]; exact ⟨rfl, rfl, fun _ => rfl⟩
  | false => rw [if_neg (by rw [hz]; decide)]; exact ⟨rfl, rfl, fun hh => by cases hh⟩
section
variable {ts : List T} {P Q : Nat} {D : Bool} {a e : E} {r : X E}
theorem rl_sign {o : List UInt8} {x2 : X E} (ho : relAt (ts.drop P) = some o) (hx : x2 = ln resB 5 (ts.drop (P + 1))) : Rtd P (rl resB a (ts.drop P)) (endP (P + 1) x2) (endD x2) (op1 o [a, endV x2]) := by
  rw [rl_eq, ho]
  simp only
  rw [List.drop_drop, ← hx]
  exact rtd_step (rtd_map (fun b => op1 o [a, b]) (rtd_self _ _))
theorem rl_is1 {z : Bool} (ho : relAt (ts.drop P) = none) (h1 : isS wIs (ts.drop P) = true) (h2 : isS wNot (ts.drop (P + 1)) = true) (hz : isS wNull (ts.drop (P + 2)) = z) : Rtd P (rl resB a (ts.drop P)) (stepP z (P + 2)) (!z) (op1 wNotnull [a]) := by
  rw [rl_eq, ho]
  simp only
  rw [if_pos h1, List.drop_drop, if_pos h2, List.drop_drop]
  exact rtd_step (rtd_step (P := P + 1) (rtd_need _ hz))
theorem rl_is0 {z : Bool} (ho : relAt (ts.drop P) = none) (h1 : isS wIs (ts.drop P) = true) (h2 : isS wNot (ts.drop (P + 1)) = false) (hz : isS wNull (ts.drop (P + 1)) = z) : Rtd P (rl resB a (ts.drop P)) (stepP z (P + 1)) (!z) (op1 wIsnull [a]) := by
  rw [rl_eq, ho]
  simp only
  rw [if_pos h1, List.drop_drop, if_neg (by rw [h2]; decide)]
  exact rtd_step (rtd_need _ hz)
theorem rl_th (ho : relAt (ts.drop P) = none) (h1 : isS wIs (ts.drop P) = false) (h2 : isS wNot (ts.drop P) = false) (hr : th resB a (ts.drop P) = some r) (h : Rtd P r Q D e) : Rtd P (rl resB a (ts.drop P)) Q D e := by
  rw [rl_eq, ho]
  simp only
  rw [if_neg (by rw [h1]; decide), if_neg (by rw [h2]; decide), hr]
  exact h
theorem rl_nth (ho : relAt (ts.drop P) = none) (h1 : isS wIs (ts.drop P) = false) (h2 : isS wNot (ts.drop P) = true) (hr : th resB a (ts.drop (P + 1)) = some r) (h : Rtd (P + 1) r Q D e) : Rtd P (rl resB a (ts.drop P)) Q D (op1 wNot [e]) := by
  rw [rl_eq, ho]
  simp only
  rw [if_neg (by rw [h1]; decide), if_pos h2, List.drop_drop, hr]
  exact rtd_step (rtd_map (fun x => op1 wNot [x]) h)
theorem rl_no (ho : relAt (ts.drop P) = none) (h1 : isS wIs (ts.drop P) = false) (h2 : isS wNot (ts.drop P) = false) (hr : th resB a (ts.drop P) = none) : Rtd P (rl resB a (ts.drop P)) P false a := by
  rw [rl_eq, ho]
  simp only
  rw [if_neg (by rw [h1]; decide), if_neg (by rw [h2]; decide), hr]
  exact ⟨rfl, rfl, fun _ => rfl⟩
theorem rl_nno (ho : relAt (ts.drop P) = none) (h1 : isS wIs (ts.drop P) = false) (h2 : isS wNot (ts.drop P) = true) (hr : th resB a (ts.drop (P + 1)) = none) : Rtd P (rl resB a (ts.drop P)) (P + 1) true a := by
  rw [rl_eq, ho]
  simp only
  rw [if_neg (by rw [h1]; decide), if_pos h2, List.drop_drop, hr]
  exact ⟨rfl, rfl, fun hh => by cases hh⟩
theorem rl_any {N : Bool} (ho : relAt (ts.drop P) = none) (h1 : isS wIs (ts.drop P) = false) (hN : isS wNot (ts.drop P) = N) (hr : th resB a (ts.drop (stepP N P)) = some r) (h : Rtd (stepP N P) r Q D e) : Rtd P (rl resB a (ts.drop P)) Q D (if N = true then op1 wNot [e] else e) := by
  cases N with
  | true => rw [if_pos rfl]; exact rl_nth ho h1 hN hr h
  | false => rw [if_neg (by decide)]; exact rl_th ho h1 hN hr h
theorem rl_anyno {N : Bool} (ho : relAt (ts.drop P) = none) (h1 : isS wIs (ts.drop P) = false) (hN : isS wNot (ts.drop P) = N) (hr : th resB a (ts.drop (stepP N P)) = none) : Rtd P (rl resB a (ts.drop P)) (stepP N P) N a := by
  cases N with
  | true => exact rl_nno ho h1 hN hr
  | false => exact rl_no ho h1 hN hr
theorem th_none (h1 : isS wLike (ts.drop P) = false) (h2 : isS wIn (ts.drop P) = false) (h3 : isS wBetween (ts.drop P) = false) : th resB a (ts.drop P) = none := by
  unfold th
  rw [if_neg (by rw [h1]; decide), if_neg (by rw [h2]; decide), if_neg (by rw [h3]; decide)]
theorem th_like {x2 : X E} (h1 : isS wLike (ts.drop P) = true) (hx : x2 = ln resB 5 (ts.drop (P + 1))) : ∃ r, th resB a (ts.drop P) = some r ∧ Rtd P r (endP (P + 1) x2) (endD x2) (op1 wLike [a, endV x2]) := by
  unfold th
  rw [if_pos h1, List.drop_drop, ← hx]
  exact ⟨_, rfl, rtd_step (rtd_map (fun b => op1 wLike [a, b]) (rtd_self _ _))⟩
theorem th_in {z z2 : Bool} {x2 : X (List E)} {P2 : Nat} {l : List E} (h1 : isS wLike (ts.drop P) = false) (h2 : isS wIn (ts.drop P) = true) (hz : isS [40] (ts.drop (P + 1)) = z) (hp : P2 = stepP z (P + 1)) (hx : x2 = xd (!z) (ls resB (ts.drop P2)))
    (hz2 : (!endD x2 && isS [41] (ts.drop (endP P2 x2))) = z2) (hl : endD x2 = false → l = endL x2) : ∃ r, th resB a (ts.drop P) = some r ∧ Rtd P r (stepP z2 (endP P2 x2)) (!z2) (op1 wIn (a :: l)) := by
  unfold th
  rw [if_neg (by rw [h1]; decide), if_pos h2, List.drop_drop]
  refine ⟨_, rfl, rtd_step ?_⟩
  unfold needX
  cases z with
  | false =>
    rw [if_neg (by rw [hz]; decide)]
    rw [stepP_f] at hp
    subst hp
    rw [show (!false) = true from rfl, xd_t] at hx
    subst hx
    obtain rfl : z2 = false := by rw [← hz2]; rfl
    exact ⟨rfl, rfl, fun hh => by cases hh⟩
  | true =>
    rw [if_pos hz]
    rw [stepP_t] at hp
    subst hp
    rw [show (!true) = false from rfl, xd_f] at hx
    refine rtd_step (P := P + 1) ?_
    rw [List.drop_drop, show P + 2 = P + 1 + 1 from rfl, ← hx]
    rcases x2 with q | ⟨xs, m⟩
    · obtain rfl : z2 = false := by rw [← hz2]; rfl
      exact ⟨rfl, rfl, fun hh => by cases hh⟩
    · have hl2 : l = xs := hl rfl
      subst hl2
      have hz3 : isS [41] (ts.drop (P + 1 + 1 + m)) = z2 := by rw [← hz2]; rfl
      simp only [seqX, List.drop_drop]
      rw [show P + (2 + m) = P + 1 + 1 + m by omega]
      cases z2 with
      | true => rw [if_pos hz3]; exact ⟨rfl, by show P + 1 + 1 + (m + (1 + 0)) = P + 1 + 1 + m + 1; omega, fun _ => rfl⟩
      | false => rw [if_neg (by rw [hz3]; decide)]; exact ⟨rfl, rfl, fun hh => by cases hh⟩
theorem th_btw {z : Bool} {x2 x3 : X E} {P2 : Nat} (h1 : isS wLike (ts.drop P) = false) (h2 : isS wIn (ts.drop P) = false) (h3 : isS wBetween (ts.drop P) = true) (hx : x2 = ln resB 5 (ts.drop (P + 1))) (hz : (!endD x2 && isS wAnd (ts.drop (endP (P + 1) x2))) = z)
    (hp : P2 = stepP z (endP (P + 1) x2)) (hx3 : x3 = xd (!z) (ln resB 5 (ts.drop P2))) : ∃ r, th resB a (ts.drop P) = some r ∧ Rtd P r (endP P2 x3) (endD x3) (op1 wBetween [a, endV x2, endV x3]) := by
  unfold th
  rw [if_neg (by rw [h1]; decide), if_neg (by rw [h2]; decide), if_pos h3, List.drop_drop, ← hx]
  refine ⟨_, rfl, rtd_step ?_⟩
  rcases x2 with q | ⟨b, m⟩
  · obtain rfl : z = false := by rw [← hz]; rfl
    rw [stepP_f] at hp
    subst hp
    rw [show (!false) = true from rfl, xd_t] at hx3
    subst hx3
    exact ⟨rfl, rfl, fun hh => by cases hh⟩
  · have hz3 : isS wAnd (ts.drop (P + 1 + m)) = z := by rw [← hz]; rfl
    simp only [seqX, List.drop_drop]
    unfold needX
    rw [show P + (1 + m) = P + 1 + m by omega, show P + (2 + m) = P + 1 + m + 1 by omega]
    cases z with
    | false =>
      rw [if_neg (by rw [hz3]; decide)]
      rw [stepP_f] at hp
      subst hp
      rw [show (!false) = true from rfl, xd_t] at hx3
      subst hx3
      exact ⟨rfl, rfl, fun hh => by cases hh⟩
    | true =>
      rw [if_pos hz3]
      rw [stepP_t] at hp
      subst hp
      rw [show (!true) = false from rfl, xd_f] at hx3
      change x3 = ln resB 5 (ts.drop (P + 1 + m + 1)) at hx3
      rw [← hx3]
      rcases x3 with q | ⟨c, k⟩
      · exact ⟨rfl, by show P + 1 + (m + (1 + q)) = P + 1 + m + 1 + q; omega, fun hh => by cases hh⟩
      · exact ⟨rfl, by show P + 1 + (m + (1 + (k + 0))) = P + 1 + m + 1 + k; omega, fun _ => rfl⟩
end
section
variable {w : World} {b : Nat} {ts : List T} {A : Option Addr} {c p : Nat} {t : TypeId} {ex : List Value} {x : X E} {z : Nat} {d : Bool} {wr wr' : World} {P Q : Nat} {D : Bool} {a e : E} {s0 : ByteArray} {i1 i2 : Int} {s3 s4 s5 : ByteArray} {A9 : Option Addr} {n9 c9 : Nat}
theorem Lk.rtd {Q' : Nat} {D' : Bool} {z' : Nat} (h : Lk w b ts A c p t ex x z' d wr P Q D a s0 i1 i2 s3 s4 s5 A9 n9 c9) (hD : D = false) (hy : Rtd P (rl resB a (ts.drop P)) Q' D' e) : Rtd p x Q' D' e := by
  obtain ⟨h1, h2, h3⟩ := h.fin hD rfl
  obtain ⟨k1, k2, k3⟩ := hy
  exact ⟨h1.trans k1, h2.trans k2, fun hh => h3.trans (k3 hh)⟩
theorem Lk.rtd_bad {z' : Nat} (h : Lk w b ts A c p t ex x z' d wr P Q D a s0 i1 i2 s3 s4 s5 A9 n9 c9) (hD : D = true) (e : E) : Rtd p x P true e := ⟨(h.f1 hD).1, (h.f1 hD).2, fun hh => by cases hh⟩
theorem Lk.rank {z' v : Nat} (h : Lk w b ts A c p t ex x z' d wr P Q D a s0 i1 i2 s3 s4 s5 A9 n9 c9) (hD : D = false) (hr : rank ts p d ≤ v) (hP : P < ts.length) (P' : Nat) (hP' : P + 1 ≤ P') (D' : Bool) : 1 ≤ v ∧ rank ts P' D' ≤ v - 1 := by
  have h1 := h.dD hD
  have h3 := h.le
  rw [h1] at hr
  unfold Go.Proofs.YthohfegnphocbaaGreatDoor.rank at *
  cases D'
  · simp only [Bool.false_eq_true, if_false] at *
    omega
  · simp only [Bool.false_eq_true, if_false, if_true] at *
    omega
theorem Inv.tell (I : Inv w wr b ts A c Q D t ex) (H : Rtd p x Q D e) (G : Got wr (fun k => w.heap.size < k) e D (.agg #[.string s0, .int .i64 i1, .int .i64 i2, .string s3, .string s4, .string s5, .slice A9 n9 c9])) :
    ∃ W : World, W = (((((((wr.setCell ⟨w.heap.size, 0, none⟩ (.string s0)).setCell ⟨w.heap.size, 1, none⟩ (.int .i64 i1)).setCell ⟨w.heap.size, 2, none⟩ (.int .i64 i2)).setCell ⟨w.heap.size, 3, none⟩ (.string s3)).setCell ⟨w.heap.size, 4, none⟩ (.string s4)).setCell ⟨w.heap.size, 5, none⟩ (.string s5)).setCell ⟨w.heap.size, 6, none⟩ (.slice A9 n9 c9)) ∧
      B7 W w.heap.size (.string s0) (.int .i64 i1) (.int .i64 i2) (.string s3) (.string s4) (.string s5) (.slice A9 n9 c9) ∧ Hid (Rq ts b A c p t ex w (fun k => w.heap.size ≤ k) x (.returned (.agg #[.string s0, .int .i64 i1, .int .i64 i2, .string s3, .string s4, .string s5, .slice A9 n9 c9])) W) := by
  obtain ⟨W, h1, h2, h3, h4, h5⟩ := I.put G
  refine ⟨W, h1, h2, Lib.hid ⟨⟨_, rfl, ?_, ?_⟩, h5.out⟩⟩
  · rw [H.1]
    cases D with
    | true => exact h4.out.bad _
    | false => rw [H.2.2 rfl]; exact h4.out
  · rw [H.1, H.2.1]
    exact h3.out
theorem list_got1k {w0 : World} (G : Got wr (fun k => w0.heap.size < k ∧ k ≠ z) e D (.agg #[.string s0, .int .i64 i1, .int .i64 i2, .string s3, .string s4, .string s5, .slice A9 n9 c9])) (hW : w0.heap.size < wr.heap.size ∧ wr.heap.size ≠ z) :
    ∃ W : World, W = wr.alloc (.cells #[.string s0, .int .i64 i1, .int .i64 i2, .string s3, .string s4, .string s5, .slice A9 n9 c9] 27) ∧ Below wr.heap.size wr W ∧ LGot W (fun k => w0.heap.size < k ∧ k ≠ z) [e] D (.slice (some ⟨wr.heap.size, 0, none⟩) 1 1) := by
  obtain ⟨e', ⟨A', c', hx, hs⟩, hr⟩ := G
  have mb := (Below.refl wr.heap.size wr).alloc (Nat.le_refl _) (.cells #[.string s0, .int .i64 i1, .int .i64 i2, .string s3, .string s4, .string s5, .slice A9 n9 c9] 27)
  refine ⟨_, rfl, mb, [e'], some ⟨wr.heap.size, 0, none⟩, 1, rfl, ?_, fun hd => by rw [hr hd]⟩
  refine ⟨Nat.le_refl _, by decide, fun _ => ⟨wr.heap.size, 0, rfl, hW, by simp, ?_⟩⟩
  have hk := hs.keep (S' := fun k => w0.heap.size < k ∧ k ≠ z) (fun k hk hlt => ⟨hk, mb.block k hlt⟩) mb.size
  have ha := heap_alloc_new wr (.cells #[.string s0, .int .i64 i1, .int .i64 i2, .string s3, .string s4, .string s5, .slice A9 n9 c9] 27)
  have h1 := Value.agg.inj hx
  simp at h1
  obtain ⟨a0, a1, a2, a3, a4, a5, a6, a7, a8⟩ := h1
  refine ⟨⟨A', c', ?_, hk⟩, trivial⟩
  unfold Cells7
  simp only [Lib.cell_of_heap ha]
  simp [a0, a1, a2, a3, a4, a5, a6, a7, a8]
theorem list_got3 {w : World} {S : Nat → Prop} {e f g : E} {d : Bool} {s0 s3 s4 s5 r0 r3 r4 r5 q0 q3 q4 q5 : ByteArray} {i1 i2 j1 j2 k1 k2 : Int} {A9 B9 C9 : Option Addr} {n9 c9 m9 k9 l9 h9 : Nat} (G : Got w S e d (.agg #[.string s0, .int .i64 i1, .int .i64 i2, .string s3, .string s4, .string s5, .slice A9 n9 c9])) (G2 : Got w S f d (.agg #[.string r0, .int .i64 j1, .int .i64 j2, .string r3, .string r4, .string r5, .slice B9 m9 k9]))
    (G3 : Got w S g d (.agg #[.string q0, .int .i64 k1, .int .i64 k2, .string q3, .string q4, .string q5, .slice C9 l9 h9])) (hW : S w.heap.size) :
    ∃ W : World, W = w.alloc (.cells #[.string s0, .int .i64 i1, .int .i64 i2, .string s3, .string s4, .string s5, .slice A9 n9 c9, .string r0, .int .i64 j1, .int .i64 j2, .string r3, .string r4, .string r5, .slice B9 m9 k9, .string q0, .int .i64 k1, .int .i64 k2, .string q3, .string q4, .string q5, .slice C9 l9 h9] 27) ∧ Below w.heap.size w W ∧ LGot W S [e, f, g] d (.slice (some ⟨w.heap.size, 0, none⟩) 3 3) := by
  obtain ⟨e', ⟨A', c', hx, hs⟩, hr⟩ := G
  obtain ⟨f', ⟨B', k', hy, hs2⟩, hr2⟩ := G2
  obtain ⟨g', ⟨C', l', hq, hs3⟩, hr3⟩ := G3
  have mb := (Below.refl w.heap.size w).alloc (Nat.le_refl _) (.cells #[.string s0, .int .i64 i1, .int .i64 i2, .string s3, .string s4, .string s5, .slice A9 n9 c9, .string r0, .int .i64 j1, .int .i64 j2, .string r3, .string r4, .string r5, .slice B9 m9 k9, .string q0, .int .i64 k1, .int .i64 k2, .string q3, .string q4, .string q5, .slice C9 l9 h9] 27)
  refine ⟨_, rfl, mb, [e', f', g'], some ⟨w.heap.size, 0, none⟩, 3, rfl, ?_, fun hd => by rw [hr hd, hr2 hd, hr3 hd]⟩
  refine ⟨Nat.le_refl _, by decide, fun _ => ⟨w.heap.size, 0, rfl, hW, by simp, ?_⟩⟩
  have hk := hs.keep (S' := S) (fun k hk hlt => ⟨hk, mb.block k hlt⟩) mb.size
  have hk2 := hs2.keep (S' := S) (fun k hk hlt => ⟨hk, mb.block k hlt⟩) mb.size
  have hk3 := hs3.keep (S' := S) (fun k hk hlt => ⟨hk, mb.block k hlt⟩) mb.size
  have ha := heap_alloc_new w (.cells #[.string s0, .int .i64 i1, .int .i64 i2, .string s3, .string s4, .string s5, .slice A9 n9 c9, .string r0, .int .i64 j1, .int .i64 j2, .string r3, .string r4, .string r5, .slice B9 m9 k9, .string q0, .int .i64 k1, .int .i64 k2, .string q3, .string q4, .string q5, .slice C9 l9 h9] 27)
  have h1 := Value.agg.inj hx
  have h2 := Value.agg.inj hy
  have h3 := Value.agg.inj hq
  simp at h1 h2 h3
  obtain ⟨a0, a1, a2, a3, a4, a5, a6, a7, a8⟩ := h1
  obtain ⟨b0, b1, b2, b3, b4, b5, b6, b7, b8⟩ := h2
  obtain ⟨d0, d1, d2, d3, d4, d5, d6, d7, d8⟩ := h3
  refine ⟨⟨A', c', ?_, hk⟩, ⟨B', k', ?_, hk2⟩, ⟨C', l', ?_, hk3⟩, trivial⟩
  · unfold Cells7
    simp only [Lib.cell_of_heap ha]
    simp [a0, a1, a2, a3, a4, a5, a6, a7, a8]
  · unfold Cells7
    simp only [Lib.cell_of_heap ha]
    simp [b0, b1, b2, b3, b4, b5, b6, b7, b8]
  · unfold Cells7
    simp only [Lib.cell_of_heap ha]
    simp [d0, d1, d2, d3, d4, d5, d6, d7, d8]
theorem rels_at (w : World) : MAt (w.alloc (.cells #[.string ⟨#[61]⟩, .string ⟨#[60, 62]⟩, .string ⟨#[60, 61]⟩, .string ⟨#[62, 61]⟩, .string ⟨#[60]⟩, .string ⟨#[62]⟩] 9)) w.heap.size (rels.map str) := by
  have key : ∀ ms : List (List UInt8), MAt (w.alloc (.cells (ms.map fun m => Value.string (str m)).toArray 9)) w.heap.size (ms.map str) := fun ms => by
    refine ⟨by simp, fun j hj => ?_⟩
    rw [Lib.cell_of_heap (heap_alloc_new w _)]
    rw [List.length_map] at hj
    simp [hj]
  exact key rels
structure Lx (w : World) (b : Nat) (ts : List T) (A : Option Addr) (c : Nat) (t : TypeId) (ex : List Value) (z xz : Nat) (wr : World) (Q : Nat) (D : Bool) (a : E) (s0 : ByteArray) (i1 i2 : Int) (s3 s4 s5 : ByteArray) (A9 : Option Addr) (n9 c9 : Nat) : Prop where
  I : Inv w wr b ts A c Q D t ex
  qz : B7 wr z (.string s0) (.int .i64 i1) (.int .i64 i2) (.string s3) (.string s4) (.string s5) (.slice A9 n9 c9)
  qx : B7 wr xz (.string s0) (.int .i64 i1) (.int .i64 i2) (.string s3) (.string s4) (.string s5) (.slice A9 n9 c9)
  G : Got wr (fun k => w.heap.size < k ∧ k ≠ xz) a D (.agg #[.string s0, .int .i64 i1, .int .i64 i2, .string s3, .string s4, .string s5, .slice A9 n9 c9])
  zlt : w.heap.size < z
  zx : z < xz
theorem Lx.later {z' xz : Nat} (h : Lx w b ts A c t ex z' xz wr Q D a s0 i1 i2 s3 s4 s5 A9 n9 c9) (hb : Below wr.heap.size wr wr') : Lx w b ts A c t ex z' xz wr' Q D a s0 i1 i2 s3 s4 s5 A9 n9 c9 :=
  ⟨h.I.later hb, h.qz.later hb, h.qx.later hb, h.G.later hb, h.zlt, h.zx⟩
theorem Lx.but {z' xz Q' : Nat} {D' : Bool} (h : Lx w b ts A c t ex z' xz wr Q D a s0 i1 i2 s3 s4 s5 A9 n9 c9) (hb : But b wr wr') (R : RR wr' b ts A c Q' D' t ex) (hD : D' = false → D = false) : Lx w b ts A c t ex z' xz wr' Q' D' a s0 i1 i2 s3 s4 s5 A9 n9 c9 := by
  have h1 := h.zlt
  have h2 := h.zx
  have h3 := h.I.lt
  exact ⟨h.I.but hb R, h.qz.same (hb.block _ h.qz.lt (by omega)), h.qx.same (hb.block _ h.qx.lt (by omega)), (h.G.but hb (fun k hk => by omega)).more hD, h.zlt, h.zx⟩
theorem Lk.lx {z' : Nat} {W : World} (h : Lk w b ts A c p t ex x z' d wr P Q D a s0 i1 i2 s3 s4 s5 A9 n9 c9) (q : B7 W wr.heap.size (.string s0) (.int .i64 i1) (.int .i64 i2) (.string s3) (.string s4) (.string s5) (.slice A9 n9 c9)) (m : Below wr.heap.size wr W) :
    Lx w b ts A c t ex z' wr.heap.size W Q D a s0 i1 i2 s3 s4 s5 A9 n9 c9 :=
  ⟨h.I.later m, h.qz.later m, q, (h.G.wide (S' := fun k => w.heap.size < k ∧ k ≠ wr.heap.size) (fun k hk hlt => ⟨hk.1, by omega⟩)).later m, h.zlt, h.qz.lt⟩
theorem Inv.putx {xz : Nat} {z0 z1 z2 z3 z4 z5 z6 : Value} {r0 r3 r4 r5 : ByteArray} {j1 j2 : Int} {B9 : Option Addr} {m9 k9 : Nat} (I : Inv w wr b ts A c Q D t ex) (qx : B7 wr xz z0 z1 z2 z3 z4 z5 z6) (hx : w.heap.size < xz) (G : Got wr (fun k => w.heap.size < k ∧ k ≠ xz) e D (.agg #[.string r0, .int .i64 j1, .int .i64 j2, .string r3, .string r4, .string r5, .slice B9 m9 k9])) :
    ∃ W : World, W = (((((((wr.setCell ⟨xz, 0, none⟩ (.string r0)).setCell ⟨xz, 1, none⟩ (.int .i64 j1)).setCell ⟨xz, 2, none⟩ (.int .i64 j2)).setCell ⟨xz, 3, none⟩ (.string r3)).setCell ⟨xz, 4, none⟩ (.string r4)).setCell ⟨xz, 5, none⟩ (.string r5)).setCell ⟨xz, 6, none⟩ (.slice B9 m9 k9)) ∧
      Hid (Inv w W b ts A c Q D t ex) ∧ Hid (B7 W xz (.string r0) (.int .i64 j1) (.int .i64 j2) (.string r3) (.string r4) (.string r5) (.slice B9 m9 k9)) ∧ Hid (Got W (fun k => w.heap.size < k ∧ k ≠ xz) e D (.agg #[.string r0, .int .i64 j1, .int .i64 j2, .string r3, .string r4, .string r5, .slice B9 m9 k9])) := by
  obtain ⟨W, g1, g2, g3, g4, g5⟩ := stored7 qx (.string r0) (.int .i64 j1) (.int .i64 j2) (.string r3) (.string r4) (.string r5) (.slice B9 m9 k9)
  refine ⟨W, g1, Lib.hid (I.own hx g4 g5), Lib.hid g2, Lib.hid ?_⟩
  obtain ⟨e', k1, k2⟩ := G
  exact ⟨e', k1.keep (fun k hk _ => ⟨hk, g4 k hk.2⟩) (by omega), k2⟩
theorem Lx.put {z' xz : Nat} {r0 r3 r4 r5 : ByteArray} {j1 j2 : Int} {B9 : Option Addr} {m9 k9 : Nat} (h : Lx w b ts A c t ex z' xz wr Q D a s0 i1 i2 s3 s4 s5 A9 n9 c9) (G : Got wr (fun k => w.heap.size < k ∧ k ≠ xz) e D (.agg #[.string r0, .int .i64 j1, .int .i64 j2, .string r3, .string r4, .string r5, .slice B9 m9 k9])) :
    ∃ W : World, W = (((((((wr.setCell ⟨xz, 0, none⟩ (.string r0)).setCell ⟨xz, 1, none⟩ (.int .i64 j1)).setCell ⟨xz, 2, none⟩ (.int .i64 j2)).setCell ⟨xz, 3, none⟩ (.string r3)).setCell ⟨xz, 4, none⟩ (.string r4)).setCell ⟨xz, 5, none⟩ (.string r5)).setCell ⟨xz, 6, none⟩ (.slice B9 m9 k9)) ∧
      Hid (Inv w W b ts A c Q D t ex) ∧ Hid (B7 W xz (.string r0) (.int .i64 j1) (.int .i64 j2) (.string r3) (.string r4) (.string r5) (.slice B9 m9 k9)) ∧ Hid (Got W (fun k => w.heap.size < k ∧ k ≠ xz) e D (.agg #[.string r0, .int .i64 j1, .int .i64 j2, .string r3, .string r4, .string r5, .slice B9 m9 k9])) := by
  have h1 := h.zlt
  have h2 := h.zx
  obtain ⟨W, g1, g2, g3, g4, g5⟩ := stored7 h.qx (.string r0) (.int .i64 j1) (.int .i64 j2) (.string r3) (.string r4) (.string r5) (.slice B9 m9 k9)
  refine ⟨W, g1, Lib.hid (h.I.own (by omega) g4 g5), Lib.hid g2, Lib.hid ?_⟩
  obtain ⟨e', k1, k2⟩ := G
  exact ⟨e', k1.keep (fun k hk _ => ⟨hk, g4 k hk.2⟩) (by omega), k2⟩
theorem ownL_cat {w : World} {B B2 : Nat} {S : Nat → Prop} {l m : List E} {d : Bool} {v u : Value} (h : OwnL w B S l d v) (h2 : OwnL w B2 (fun k => S k ∧ v.ownBlock ≠ some k) m d u) (hl : l.length ≤ 1000000) (hm : m.length ≤ 1000000) (hB : B ≤ w.heap.size) :
    ∃ v' w', (Builtin.append_ #[25, 25] 25 #[v, u]).run Tryz.prog w = .ok v' w' ∧ OwnL w' B S (l ++ m) d v' ∧ w.grownBy w' v.ownBlock := by
  obtain ⟨i0, hi, hz0, hz1, hz2⟩ := info_parts info27
  obtain ⟨rs, h1, h3, h4, h5⟩ := h
  obtain ⟨qs, k1, k3, k4, k5⟩ := h2
  rcases k1.2 with ⟨hv, h0⟩ | ⟨g, cap, cur, hv, hg, hgg, hn, hmm, hcs, _⟩
  · have hq : qs = [] := List.eq_nil_of_length_eq_zero h0
    subst hq
    have hml : m = [] := List.eq_nil_of_length_eq_zero k4.symm
    subst hml
    subst hv
    have hsh : ∃ A c, v = .slice A rs.length c ∧ rs.length ≤ c := by
      rcases h1.2 with ⟨hv1, h01⟩ | ⟨g1, cap1, cur1, hv1, _, hgg1, hn1, _⟩
      · exact ⟨none, 0, by rw [hv1, h01], by omega⟩
      · exact ⟨_, cap1, hv1, hn1⟩
    obtain ⟨A', c', hv', hn'⟩ := hsh
    refine ⟨v, w, ?_, ⟨rs, h1, h3, by simpa using h4, fun hd => by rw [h5 hd]; simp⟩, ⟨rfl, rfl, rfl, Nat.le_refl _, fun _ _ _ => rfl⟩⟩
    rw [hv']
    exact run_append_nothing (P := Tryz.prog) w 25 25 25 27 i0 Tryz.underlying25 hi A' rs.length c' hn' _ (Src.ofNil w Tryz.underlying25 0)
  · have hc := k1.cells (g := g) (by rw [hv]; rfl)
    obtain ⟨v', w', g1, g2, g3, -, g5⟩ := run_append_own_at (P := Tryz.prog) w B 25 25 27 i0 _ 7 104 Tryz.underlying25 hi hz0 hz1 hz2 rfl (by decide) v rs.length (flatE rs) h1 ⟨g, 0, none⟩ qs.length cap (flatE qs) (by rw [flatE_len]) hc (flatE_one qs) (by unfold maxLen; omega) (by omega) hB
    have hblk : ∀ k, k < w.heap.size → v.ownBlock ≠ some k → w'.heap[k]? = w.heap[k]? := fun k hk hv => g3.block k hk (fun e => hv e.symm)
    have hgs := g3.size
    have hnew : ∀ k, k < w.heap.size → v.ownBlock ≠ some k → v'.ownBlock ≠ some k := fun k hk hv => by
      rcases g5 with g5 | g5
      · rw [g5]; exact hv
      · rw [g5]; intro e; injection e; omega
    refine ⟨v', w', by rw [hv]; exact g1, ⟨rs ++ qs, by rw [List.length_append, flatE_append]; exact g2, ?_, by simp [h4, k4], fun hd => by rw [List.map_append, h5 hd, k5 hd]⟩, g3⟩
    intro q hq
    rcases List.mem_append.1 hq with hq | hq
    · exact (h3 q hq).keep (fun k hk hlt => ⟨⟨hk.1, hnew k hlt hk.2⟩, hblk k hlt hk.2⟩) hgs
    · exact (k3 q hq).keep (fun k hk hlt => ⟨⟨hk.1.1, hnew k hlt hk.1.2⟩, hblk k hlt hk.1.2⟩) hgs
end
end Go.Proofs.YthohfegnphocbaaGreatDoor
namespace Go.Proofs.YthohfegnphocbaaGreatDoor
open Go.RowKit
theorem step_append_runx {ops : Array Oper} (w : World) {o : Oper} {a : Act} {K : Act → World → Prop} {Q : Exit → Act → World → Prop} {E : Prop} (hgd : o.guard = none) (s x : Operand) (t u : TypeId)
    (ho : o.op = .call { callee := .builtin .append, args := #[s, x], argTypes := #[t, u] }) (v y : Value) (hs : a.eval s = v) (hx : a.eval x = y) {v' : Value} {w' : World}
    (hr : (Builtin.append_ #[t, u] o.type #[v, y]).run Tryz.prog w = .ok v' w') (h : K (a.put o.dst v') w') : if Region.wanted o (yielded ops a.tmps) = true then Oper.wp Tryz.prog o a w K Q else E := by
  have hw : Region.wanted o (yielded ops a.tmps) = true := by simp [Region.wanted, hgd]
  rw [if_pos hw]
  unfold Oper.wp execOp
  simp only [ho, resolve, invoke, builtin, Sem.run_bind, Sem.run_pure, Result.andThen_ok, List.map_toArray, List.map_cons, List.map_nil, hs, hx, hr]
  exact h
section
variable {w : World} {b : Nat} {ts : List T} {A : Option Addr} {c : Nat} {t : TypeId} {ex : List Value} {z xz Q Q' : Nat} {D D' : Bool} {W w9 : World} {a : E} {s0 : ByteArray} {i1 i2 : Int} {s3 s4 s5 : ByteArray} {A9 : Option Addr} {n9 c9 : Nat} {l : List E} {u : Value}
theorem in_grown {w1 w2 w3 : World} {r : Nat} (hb : But b w1 w2) (hg : w2.grownBy w3 (some r)) (hr : w1.heap.size ≤ r) : But b w1 w3 := by
  refine ⟨hg.os.trans hb.os, hg.tape.trans hb.tape, hg.output.trans hb.output, by have := hb.size; have := hg.size; omega, fun k hk hkb => ?_⟩
  rw [hg.block k (by have := hb.size; omega) (by intro e; injection e; omega)]
  exact hb.block k hk hkb
theorem in_rr {w2 w3 : World} {r : Nat} (R : RR w2 b ts A c Q' D' t ex) (hg : w2.grownBy w3 (some r)) (hr : b < r) : RR w3 b ts A c Q' D' t ex := by
  refine ⟨(hg.block b R.lt (by intro e; injection e; omega)).trans R.box, R.toks.below ⟨hg.os, hg.tape, hg.output, hg.size, fun k hk => hg.block k (by have := R.lt; omega) (by intro e; injection e; omega)⟩, R.hp⟩
theorem in_a (hx : Lx w b ts A c t ex z xz W Q D a s0 i1 i2 s3 s4 s5 A9 n9 c9) (hb9 : But b (W.alloc (.cells #[.string s0, .int .i64 i1, .int .i64 i2, .string s3, .string s4, .string s5, .slice A9 n9 c9] 27)) w9) (R9 : RR w9 b ts A c Q' D' t ex) (hD : D' = false → D = false) (hl : l.length ≤ 1000000)
    (ho : OwnL w9 (W.alloc (.cells #[.string s0, .int .i64 i1, .int .i64 i2, .string s3, .string s4, .string s5, .slice A9 n9 c9] 27)).heap.size (fun k => (W.alloc (.cells #[.string s0, .int .i64 i1, .int .i64 i2, .string s3, .string s4, .string s5, .slice A9 n9 c9] 27)).heap.size ≤ k) l false u) :
    ∃ v' w10, (Builtin.append_ #[25, 25] 25 #[.slice (some ⟨W.heap.size, 0, none⟩) 1 1, u]).run Tryz.prog w9 = .ok v' w10 ∧ Hid (Lx w b ts A c t ex z xz w10 Q' D' a s0 i1 i2 s3 s4 s5 A9 n9 c9) ∧ Hid (OwnL w10 (xz + 1) (fun k => w.heap.size < k ∧ k ≠ xz) (a :: l) D' v') := by
  have h1 := hx.zlt
  have h2 := hx.zx
  have h3 := hx.qx.lt
  have h4 := hx.I.lt
  obtain ⟨r, hxr, hs, hr⟩ := hx.G.row
  have hc := Value.agg.inj hxr
  have k1 := ownL_one (w := W) (B := xz + 1) (S := fun k => w.heap.size < k ∧ k ≠ xz) (e := a) (d := D) r hs hr (by omega)
  rw [← hc] at k1
  have hsz : (W.alloc (.cells #[.string s0, .int .i64 i1, .int .i64 i2, .string s3, .string s4, .string s5, .slice A9 n9 c9] 27)).heap.size = W.heap.size + 1 := by simp
  have hz9 := hb9.size
  have k2 := k1.keep (S' := fun k => w.heap.size < k ∧ k ≠ xz) (fun k hk hlt => ⟨hk, hb9.block k hlt (by omega)⟩) (.inr ⟨b, by omega, hb9⟩) (by omega)
  have k3 := ho.keep (S' := fun k => (w.heap.size < k ∧ k ≠ xz) ∧ (Value.slice (some ⟨W.heap.size, 0, none⟩) 1 1).ownBlock ≠ some k) (fun k hk hlt => ⟨⟨⟨by omega, by omega⟩, by intro e; injection e with e; simp at e; omega⟩, rfl⟩) (.inr ⟨b, by omega, But.refl b w9⟩) (by omega)
  obtain ⟨v', w10, g1, g2, g3⟩ := ownL_cat (k2.more hD) (k3.more (fun _ => rfl)) (by simp) hl (by omega)
  have hB : But b W (W.alloc (.cells #[.string s0, .int .i64 i1, .int .i64 i2, .string s3, .string s4, .string s5, .slice A9 n9 c9] 27)) := .of ((Below.refl W.heap.size W).alloc (Nat.le_refl _) _) (by omega)
  exact ⟨v', w10, g1, Lib.hid (hx.but (in_grown (r := W.heap.size) (hB.trans hb9) g3 (Nat.le_refl _)) (in_rr (r := W.heap.size) R9 g3 (by omega)) hD), Lib.hid g2⟩
theorem in_b (hx : Lx w b ts A c t ex z xz W Q D a s0 i1 i2 s3 s4 s5 A9 n9 c9) (hb9 : But b W w9) (R9 : RR w9 b ts A c Q' D' t ex) (hD : D' = false → D = false) (hl : l.length ≤ 1000000)
    (ho : OwnL w9 W.heap.size (fun k => W.heap.size ≤ k) l false u) :
    ∃ v' w10, (Builtin.append_ #[25, 25] 25 #[.slice (some ⟨w9.heap.size, 0, none⟩) 1 1, u]).run Tryz.prog (w9.alloc (.cells #[.string s0, .int .i64 i1, .int .i64 i2, .string s3, .string s4, .string s5, .slice A9 n9 c9] 27)) = .ok v' w10 ∧ Hid (Lx w b ts A c t ex z xz w10 Q' D' a s0 i1 i2 s3 s4 s5 A9 n9 c9) ∧ Hid (OwnL w10 (xz + 1) (fun k => w.heap.size < k ∧ k ≠ xz) (a :: l) D' v') := by
  have h1 := hx.zlt
  have h2 := hx.zx
  have h3 := hx.qx.lt
  have h4 := hx.I.lt
  have hx9 := hx.but hb9 R9 hD
  obtain ⟨r, hxr, hs, hr⟩ := hx9.G.row
  have hc := Value.agg.inj hxr
  have hz9 := hb9.size
  have k1 := ownL_one (w := w9) (B := xz + 1) (S := fun k => w.heap.size < k ∧ k ≠ xz) (e := a) (d := D') r hs hr (by omega)
  rw [← hc] at k1
  have mb := (Below.refl w9.heap.size w9).alloc (Nat.le_refl _) (.cells #[.string s0, .int .i64 i1, .int .i64 i2, .string s3, .string s4, .string s5, .slice A9 n9 c9] 27)
  have hsz : (w9.alloc (.cells #[.string s0, .int .i64 i1, .int .i64 i2, .string s3, .string s4, .string s5, .slice A9 n9 c9] 27)).heap.size = w9.heap.size + 1 := by simp
  have k3 := ho.keep (S' := fun k => (w.heap.size < k ∧ k ≠ xz) ∧ (Value.slice (some ⟨w9.heap.size, 0, none⟩) 1 1).ownBlock ≠ some k) (fun k hk hlt => ⟨⟨⟨by omega, by omega⟩, by intro e; injection e with e; simp at e; omega⟩, mb.block k hlt⟩) (.inr ⟨b, by omega, But.of mb (by omega)⟩) (by omega)
  obtain ⟨v', w10, g1, g2, g3⟩ := ownL_cat k1 (k3.more (fun _ => rfl)) (by simp) hl (by omega)
  exact ⟨v', w10, g1, Lib.hid (hx9.but (in_grown (r := w9.heap.size) (But.of mb (by omega)) g3 (Nat.le_refl _)) (in_rr (r := w9.heap.size) (R9.later mb) g3 (by have := R9.lt; omega)) (fun h => h)), Lib.hid g2⟩
end
end Go.Proofs.YthohfegnphocbaaGreatDoor
