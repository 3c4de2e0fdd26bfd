/- Two pairs of registries that lie apart, and steps that came in. -/
import Derived.Test.YtjafddkkndfphaaKqJ
namespace Go.Proofs.Ytjafddkkndfphaa.Kq
open Go.ChangeShapes Go.WideShapes Go.ChangeAt Go.RowKit Own Ro wordsNames Kc Kr

def spHd (s : Sp) : List Value := [.int .i64 s.who, .int .i64 s.kind, .string (str s.card.name), .string (str s.card.fam), .int .u8 s.card.level, .slice none 0 0, .int .i8 s.card.score, .string (str s.card.quirk), .int .i16 s.card.entry, .string (str s.pack), .int .i64 s.init, .int .i64 s.sum]
def KS : Kd Sp where
  k := 12
  p := 5
  q := 1
  E := 66
  F := 9
  hd := spHd
  inn := fun s => strs s.card.compat
  len := fun s => s.card.compat.length
  z := sp0
  hk := fun _ => rfl
  hq := fun s => by rw [strs_len]; omega
  hp := by decide
  ne := by decide
  one := by intro a u hu; simp [spHd] at hu; rcases hu with rfl | rfl | rfl | rfl | rfl | rfl | rfl | rfl | rfl | rfl | rfl | rfl <;> rfl
  oneI := fun a u hu => one_strs a.card.compat u hu
/-- What a pair has. -/
structure St where
  C : Cs
  F : Cs
  N : List Nt
  z : Bool
  c : Sl
  f : Sl
  n : Sl
  RC : List Sl
  RF : List Sl
def PrS (W : World) (g q : Nat) (s : St) : Prop := Pr W g q s.C s.F s.N s.z s.c s.f s.n s.RC s.RF
def TxS (s : St) (y : Nat) : Prop := Tx s.C s.F y
def LBS (s : St) (y : Nat) : Prop := LB s.c s.f s.n y
def WrS (g q : Nat) (s : St) (y : Nat) : Prop := Wr g q s.c s.f s.n y
structure Two (B : Nat) (W : World) (g0 q0 g1 q1 : Nat) (s t : St) : Prop where
  a : PrS W g0 q0 s
  b : PrS W g1 q1 t
  gg : g0 ≠ g1
  qq : q0 ≠ q1
  l : ∀ y, LBS s y → ¬ LBS t y
  sa : ∀ y, TxS s y → ¬ WrS g1 q1 t y
  tb : ∀ y, TxS t y → ¬ WrS g0 q0 s y
  lo : ∀ y, WrS g0 q0 s y ∨ WrS g1 q1 t y → B ≤ y
theorem wrs_lt {W : World} {g q : Nat} {s : St} (h : PrS W g q s) {y : Nat} (hy : WrS g q s y) : y < W.heap.size := by
  rcases hy with rfl | hy
  · exact h.p.blk.lt
  · obtain ⟨_, _, _, t, _⟩ := h.r.types hy
    exact (Array.getElem?_eq_some_iff.1 t).1
theorem wrs_lb {g q : Nat} {s : St} {y : Nat} (h : WrS g q s y) : y = g ∨ y = q ∨ LBS s y := h.elim .inl fun h => h.elim (fun h => .inr (.inl h)) fun h => .inr (.inr h)
theorem lb_wrs {g q : Nat} {s : St} {y : Nat} (h : LBS s y) : WrS g q s y := .inr (.inr h)
section
variable {B : Nat} {W W' : World} {g0 q0 g1 q1 : Nat} {s t : St}
theorem Two.swap (h : Two B W g0 q0 g1 q1 s t) : Two B W g1 q1 g0 q0 t s :=
  ⟨h.b, h.a, h.gg.symm, h.qq.symm, fun y h1 h2 => h.l y h2 h1, h.tb, h.sa, fun y hy => h.lo y hy.symm⟩
theorem PrS.below {g q : Nat} (h : PrS W g q s) (hb : Below W.heap.size W W') : PrS W' g q s :=
  ⟨h.p.below hb, h.r.below hb, fun y hy => Nat.lt_of_lt_of_le (h.lt y hy) hb.size, h.ap⟩
theorem Two.below (h : Two B W g0 q0 g1 q1 s t) (hb : Below W.heap.size W W') : Two B W' g0 q0 g1 q1 s t :=
  ⟨h.a.below hb, h.b.below hb, h.gg, h.qq, h.l, h.sa, h.tb, h.lo⟩
theorem Two.step (h : Two B W g0 q0 g1 q1 s t) (hB : B ≤ W.heap.size) (hs : Stepped g0 q0 s.C s.F s.c s.f s.n W W') : ∃ s', Two B W' g0 q0 g1 q1 s' t := by
  obtain ⟨C', F', N', z', c', f', n', RC', RF', hp, hc, htx, fc, ff, fn⟩ := hs
  have hlb : ∀ y, LBS ⟨C', F', N', z', c', f', n', RC', RF'⟩ y → LBS s y ∨ W.heap.size ≤ y := fun y hy => by
    rcases hy with hy | hy | hy
    · rcases fc with x | x
      · exact .inl (.inl (x ▸ hy))
      · exact .inr (x y hy)
    · rcases ff with x | x
      · exact .inl (.inr (.inl (x ▸ hy)))
      · exact .inr (x y hy)
    · rcases fn with x | x
      · exact .inl (.inr (.inr (x ▸ hy)))
      · exact .inr (x y hy)
  refine ⟨⟨C', F', N', z', c', f', n', RC', RF'⟩, hp, Pr.ch h.b h.a hc h.gg.symm h.qq.symm (fun y h1 h2 => h.l y h2 h1) h.tb, h.gg, h.qq, fun y h1 h2 => ?_, fun y h1 h2 => ?_, fun y h1 h2 => ?_, fun y hy => ?_⟩
  · rcases hlb y h1 with h3 | h3
    · exact h.l y h3 h2
    · have := wrs_lt h.b (lb_wrs h2 : WrS g1 q1 t y)
      omega
  · rcases htx y h1 with h3 | h3
    · exact h.sa y h3 h2
    · have := wrs_lt h.b h2
      omega
  · have h4 := h.b.lt y h1
    rcases wrs_lb h2 with h3 | h3 | h3
    · exact h.tb y h1 (.inl h3)
    · exact h.tb y h1 (.inr (.inl h3))
    · rcases hlb y h3 with h5 | h5
      · exact h.tb y h1 (lb_wrs h5)
      · omega
  · rcases hy with hy | hy
    · rcases wrs_lb hy with h3 | h3 | h3
      · exact h.lo y (.inl (.inl h3))
      · exact h.lo y (.inl (.inr (.inl h3)))
      · rcases hlb y h3 with h5 | h5
        · exact h.lo y (.inl (lb_wrs h5))
        · omega
    · exact h.lo y (.inr hy)
end
/-- The two lists of registries. -/
def Ls (W : World) (b d g0 g1 q0 q1 : Nat) : Prop :=
  W.heap[b]? = some (.cells ⟨[.pointer (some ⟨g0, 0, none⟩), .pointer (some ⟨g1, 0, none⟩)]⟩ 22 (0, 0)) ∧ W.heap[d]? = some (.cells ⟨[.pointer (some ⟨q0, 0, none⟩), .pointer (some ⟨q1, 0, none⟩)]⟩ 61 (0, 0))
theorem ls_ch {W W' : World} {b d g0 g1 q0 q1 g q : Nat} {s : St} (h : Ls W b d g0 g1 q0 q1) (hp : PrS W g q s) (hc : Ch (WrS g q s) W W') : Ls W' b d g0 g1 q0 q1 := by
  refine ⟨(hc.block b (Array.getElem?_eq_some_iff.1 h.1).1 (fun e => ?_)).trans h.1, (hc.block d (Array.getElem?_eq_some_iff.1 h.2).1 (fun e => ?_)).trans h.2⟩
  · rcases e with e | e
    · exact type_ne h.1 hp.p.blk (by decide) e
    · exact hp.r.not_reg h.1 (by decide) e
  · rcases e with e | e
    · exact type_ne h.2 hp.p.blk (by decide) e
    · exact hp.r.not_reg h.2 (by decide) e
/-- A step, whatever it is. -/
theorem step_any {B : Nat} {w : World} {g0 q0 g1 q1 : Nat} {s t : St} {b d u v x y : Nat} (h : Two B w g0 q0 g1 q1 s t) (hB : B ≤ w.heap.size) (hl : Ls w b d u v x y) (p : Sp) (r : Sl) (hm : MildC 1099511627776 p.card) (hpk : p.pack.length ≤ 1099511627776) (hr : r.2.1 = p.card.compat.length) (hne : Neat r)
    (hs : CellsIn w 1 r.1 r.2.1 (strs p.card.compat)) (hsr : 0 < r.2.1 → ∀ a, r.1 = some a → a.block < B) :
    Calls Try.prog 31 #[.pointer (some ⟨g0, 0, none⟩), .pointer (some ⟨q0, 0, none⟩), spV p r] w fun e w' => e = .returned (.bool true) ∧ (∃ s', Two B w' g0 q0 g1 q1 s' t) ∧ Ls w' b d u v x y ∧ Below B w w' := by
  have key : ∀ w', Stepped g0 q0 s.C s.F s.c s.f s.n w w' → (∃ s', Two B w' g0 q0 g1 q1 s' t) ∧ Ls w' b d u v x y ∧ Below B w w' := fun w' hst => by
    have hc := hst
    obtain ⟨_, _, _, _, _, _, _, _, _, _, hc, _⟩ := hc
    exact ⟨h.step hB hst, ls_ch hl h.a hc, ch_low hc hB (fun y hy => h.lo y (.inl hy))⟩
  have hsr2 : 0 < r.2.1 → ∀ a, r.1 = some a → ¬ Wr g0 q0 s.c s.f s.n a.block := fun hp a ha e => by
    have h1 := hsr hp a ha
    have h2 := h.lo a.block (.inl e)
    omega
  by_cases h1 : p.kind = 1
  · exact (step_mark p r w h.a hpk h1).mono fun e w' hx => ⟨hx.1, key w' hx.2⟩
  · by_cases h2 : p.kind = 2
    · exact (step_freeze p r w h.a h2).mono fun e w' hx => ⟨hx.1, key w' hx.2⟩
    · by_cases h3 : p.kind = 3
      · exact (step_tell p r w h.a h3).mono fun e w' hx => ⟨hx.1, key w' hx.2⟩
      · exact (step_enter p r w h.a hm hr hne hs hsr2 h1 h2 h3).mono fun e w' hx => ⟨hx.1, key w' hx.2⟩
theorem nil_any (p : Sp) (r : Sl) (w : World) (hm : MildC 1099511627776 p.card) (hr : r.2.1 = p.card.compat.length) (hne : Neat r) (hs : CellsIn w 1 r.1 r.2.1 (strs p.card.compat)) :
    Calls Try.prog 31 #[.pointer none, .pointer none, spV p r] w fun e w' => e = .returned (.bool true) ∧ Below w.heap.size w w' := by
  by_cases h1 : p.kind = 1
  · exact nil_mark p r w h1
  · by_cases h2 : p.kind = 2
    · exact nil_freeze p r w h2
    · by_cases h3 : p.kind = 3
      · exact nil_tell p r w h3
      · exact nil_enter p r w hm hr hne hs h1 h2 h3
end Go.Proofs.Ytjafddkkndfphaa.Kq
