/- Plain facts on the order of values and rows (no program): comparing numbers, bytes, values and lists of values is an order: it answers -1, 0 or 1, turned round it is turned round, it is 0 just where both are the same, and it goes on. No condition. -/
import Derived.Lib.Bytealg
import Derived.Sort.Walk0
namespace Go.Proofs.YtnpemegklndegaaDoor

structure V where
  k : Int
  i : Int
  s : ByteArray

/-- A comparison that is an order. -/
structure CmpOk {α : Type} (c : α → α → Int) : Prop where
  range : ∀ a b, c a b = -1 ∨ c a b = 0 ∨ c a b = 1
  flip : ∀ a b, c b a = - c a b
  zero : ∀ a b, c a b = 0 ↔ a = b
  trans : ∀ a b d, c a b = -1 → c b d = -1 → c a d = -1

def cmpI (a b : Int) : Int := if a < b then -1 else if b < a then 1 else 0
def cmpS (a b : ByteArray) : Int := Lib.compareBytes a.data.toList b.data.toList
def cmpV (k i : Int) (s : ByteArray) (k' i' : Int) (s' : ByteArray) : Int := if cmpI k k' = 0 then (if cmpI i i' = 0 then cmpS s s' else cmpI i i') else cmpI k k'
def cmpVV (x y : V) : Int := cmpV x.k x.i x.s y.k y.i y.s
def cmpL {α : Type} (c : α → α → Int) : List α → List α → Int
  | [], [] => 0
  | [], _ :: _ => -1
  | _ :: _, [] => 1
  | a :: l, b :: m => if c a b = 0 then cmpL c l m else c a b
def cmpR (xs ys : List V) : Int := cmpL cmpVV xs ys

theorem cmpI_ok : CmpOk cmpI where
  range a b := by unfold cmpI; split <;> (try split) <;> simp
  flip a b := by unfold cmpI; split <;> split <;> (try split) <;> omega
  zero a b := by unfold cmpI; split <;> (try split) <;> omega
  trans a b d := by unfold cmpI; split <;> split <;> split <;> (try split) <;> (try split) <;> omega

theorem CmpOk.self {α : Type} {c : α → α → Int} (h : CmpOk c) (a : α) : c a a = 0 := (h.zero a a).2 rfl

/-- One comparison behind another. -/
theorem lex_ok {α β : Type} {c : α → α → Int} {d : β → β → Int} (hc : CmpOk c) (hd : CmpOk d) : CmpOk fun (x y : α × β) => if c x.1 y.1 = 0 then d x.2 y.2 else c x.1 y.1 where
  range x y := by
    by_cases h : c x.1 y.1 = 0
    · simp only [if_pos h]; exact hd.range _ _
    · simp only [if_neg h]; exact hc.range _ _
  flip x y := by
    have h1 := hc.flip x.1 y.1
    by_cases h : c x.1 y.1 = 0
    · rw [if_pos h, if_pos (by omega)]; exact hd.flip _ _
    · rw [if_neg h, if_neg (by omega)]; exact h1
  zero x y := by
    obtain ⟨x1, x2⟩ := x
    obtain ⟨y1, y2⟩ := y
    by_cases h : c x1 y1 = 0
    · simp only [if_pos h, Prod.mk.injEq, hd.zero]
      exact ⟨fun e => ⟨(hc.zero _ _).1 h, e⟩, fun e => e.2⟩
    · simp only [if_neg h, Prod.mk.injEq]
      exact ⟨fun e => absurd e h, fun e => absurd ((hc.zero _ _).2 e.1) h⟩
  trans x y z h1 h2 := by
    obtain ⟨x1, x2⟩ := x
    obtain ⟨y1, y2⟩ := y
    obtain ⟨z1, z2⟩ := z
    simp only at h1 h2 ⊢
    by_cases a : c x1 y1 = 0
    · rw [if_pos a] at h1
      obtain rfl := (hc.zero _ _).1 a
      by_cases b : c x1 z1 = 0
      · rw [if_pos b] at h2 ⊢; exact hd.trans _ _ _ h1 h2
      · rw [if_neg b] at h2 ⊢; exact h2
    · rw [if_neg a] at h1
      by_cases b : c y1 z1 = 0
      · obtain rfl := (hc.zero _ _).1 b
        rw [if_neg a]; exact h1
      · rw [if_neg b] at h2
        have := hc.trans _ _ _ h1 h2
        rw [if_neg (by omega)]; exact this

theorem cmpL_ok {α : Type} {c : α → α → Int} (hc : CmpOk c) : CmpOk (cmpL c) where
  range a := by
    induction a with
    | nil => intro b; cases b <;> simp [cmpL]
    | cons x a ih =>
      intro b
      cases b with
      | nil => simp [cmpL]
      | cons y b =>
        unfold cmpL
        split
        · exact ih b
        · exact hc.range _ _
  flip a := by
    induction a with
    | nil => intro b; cases b <;> simp [cmpL]
    | cons x a ih =>
      intro b
      cases b with
      | nil => simp [cmpL]
      | cons y b =>
        have h1 := hc.flip x y
        unfold cmpL
        by_cases h : c x y = 0
        · rw [if_pos h, if_pos (by omega)]; exact ih b
        · rw [if_neg h, if_neg (by omega)]; exact h1
  zero a := by
    induction a with
    | nil => intro b; cases b <;> simp [cmpL]
    | cons x a ih =>
      intro b
      cases b with
      | nil => simp [cmpL]
      | cons y b =>
        unfold cmpL
        by_cases h : c x y = 0
        · rw [if_pos h, ih b]
          simp [(hc.zero _ _).1 h]
        · rw [if_neg h]
          simp only [List.cons.injEq]
          exact ⟨fun e => absurd e h, fun e => absurd ((hc.zero _ _).2 e.1) h⟩
  trans a := by
    induction a with
    | nil =>
      intro b d h1 h2
      cases d with
      | nil => cases b <;> simp [cmpL] at h1 h2
      | cons z d => simp [cmpL]
    | cons x a ih =>
      intro b d h1 h2
      cases b with
      | nil => simp [cmpL] at h1
      | cons y b =>
        cases d with
        | nil => simp [cmpL] at h2
        | cons z d =>
          unfold cmpL at h1 h2 ⊢
          by_cases p : c x y = 0
          · rw [if_pos p] at h1
            obtain rfl := (hc.zero _ _).1 p
            by_cases q : c x z = 0
            · rw [if_pos q] at h2 ⊢; exact ih _ _ h1 h2
            · rw [if_neg q] at h2 ⊢; exact h2
          · rw [if_neg p] at h1
            by_cases q : c y z = 0
            · obtain rfl := (hc.zero _ _).1 q
              rw [if_neg p]; exact h1
            · rw [if_neg q] at h2
              have := hc.trans _ _ _ h1 h2
              rw [if_neg (by omega)]; exact this

def cmpU (a b : UInt8) : Int := if a < b then -1 else if b < a then 1 else 0
theorem cmpU_ok : CmpOk cmpU where
  range a b := by unfold cmpU; split <;> (try split) <;> simp
  flip a b := by unfold cmpU; simp only [UInt8.lt_iff_toNat_lt]; split <;> split <;> (try split) <;> omega
  zero a b := by
    unfold cmpU
    simp only [UInt8.lt_iff_toNat_lt, ← UInt8.toNat_inj]
    split <;> (try split) <;> omega
  trans a b d := by unfold cmpU; simp only [UInt8.lt_iff_toNat_lt]; split <;> split <;> split <;> (try split) <;> (try split) <;> omega

theorem compareBytes_cmpL : ∀ a b : List UInt8, Lib.compareBytes a b = cmpL cmpU a b
  | [], [] => rfl
  | [], _ :: _ => rfl
  | _ :: _, [] => rfl
  | x :: a, y :: b => by
    unfold Lib.compareBytes cmpL
    rw [compareBytes_cmpL a b]
    unfold cmpU
    by_cases h : x < y
    · simp [h]
    · by_cases h' : y < x <;> simp [h, h']

theorem cmpS_ok : CmpOk cmpS where
  range a b := by unfold cmpS; rw [compareBytes_cmpL]; exact (cmpL_ok cmpU_ok).range _ _
  flip a b := by unfold cmpS; rw [compareBytes_cmpL, compareBytes_cmpL]; exact (cmpL_ok cmpU_ok).flip _ _
  zero a b := by
    unfold cmpS; rw [compareBytes_cmpL, (cmpL_ok cmpU_ok).zero]
    constructor
    · intro h
      cases a; cases b
      simp only [ByteArray.mk.injEq]
      exact Array.toList_inj.1 h
    · intro h; rw [h]
  trans a b d := by unfold cmpS; simp only [compareBytes_cmpL]; exact (cmpL_ok cmpU_ok).trans _ _ _

theorem bytesLess_cmpS (a b : ByteArray) : Op.bytesLess a.toList b.toList = decide (cmpS a b = -1) := by
  rw [Lib.toList_data, Lib.toList_data]
  unfold cmpS
  rw [compareBytes_cmpL]
  generalize a.data.toList = x
  generalize b.data.toList = y
  induction x generalizing y with
  | nil => cases y <;> simp [Op.bytesLess, cmpL]
  | cons u x ih =>
    cases y with
    | nil => simp [Op.bytesLess, cmpL]
    | cons v y =>
      unfold Op.bytesLess cmpL
      rw [ih y]
      unfold cmpU
      by_cases h : u < v
      · simp [h]
      · by_cases h' : v < u
        · have hne : u ≠ v := by intro e; subst e; exact h h'
          simp [h, h', hne]
        · have he : u = v := by
            simp only [UInt8.lt_iff_toNat_lt] at h h'
            exact UInt8.toNat_inj.1 (by omega)
          simp [he]

theorem V.ext {x y : V} (h1 : x.k = y.k) (h2 : x.i = y.i) (h3 : x.s = y.s) : x = y := by
  cases x; cases y; simp_all

theorem cmpVV_ok : CmpOk cmpVV := by
  have h := lex_ok cmpI_ok (lex_ok cmpI_ok cmpS_ok)
  have e : ∀ x y : V, cmpVV x y = (fun (x y : Int × Int × ByteArray) => if cmpI x.1 y.1 = 0 then (if cmpI x.2.1 y.2.1 = 0 then cmpS x.2.2 y.2.2 else cmpI x.2.1 y.2.1) else cmpI x.1 y.1) (x.k, x.i, x.s) (y.k, y.i, y.s) := fun x y => rfl
  exact {
    range := fun a b => by rw [e]; exact h.range _ _
    flip := fun a b => by rw [e, e]; exact h.flip _ _
    zero := fun a b => by
      rw [e, h.zero]
      simp only [Prod.mk.injEq]
      exact ⟨fun q => V.ext q.1 q.2.1 q.2.2, fun q => by rw [q]; simp⟩
    trans := fun a b d => by rw [e, e, e]; exact h.trans _ _ _ }

theorem cmpR_ok : CmpOk cmpR := cmpL_ok cmpVV_ok

theorem CmpOk.pos {α : Type} {c : α → α → Int} (h : CmpOk c) {a b : α} (h1 : c a b = 1) : c b a = -1 := by have := h.flip a b; omega
/-- What is not behind, twice, is not behind. -/
theorem CmpOk.le_trans {α : Type} {c : α → α → Int} (h : CmpOk c) {a b d : α} (h1 : c a b ≤ 0) (h2 : c b d ≤ 0) : c a d ≤ 0 := by
  rcases h.range a b with p | p | p
  · rcases h.range b d with q | q | q
    · have := h.trans _ _ _ p q; omega
    · obtain rfl := (h.zero _ _).1 q; omega
    · omega
  · obtain rfl := (h.zero _ _).1 p; omega
  · omega
theorem CmpOk.lt_le {α : Type} {c : α → α → Int} (h : CmpOk c) {a b d : α} (h1 : c a b < 0) (h2 : c b d ≤ 0) : c a d < 0 := by
  rcases h.range a b with p | p | p
  · rcases h.range b d with q | q | q
    · have := h.trans _ _ _ p q; omega
    · obtain rfl := (h.zero _ _).1 q; omega
    · omega
  · omega
  · omega
end Go.Proofs.YtnpemegklndegaaDoor
