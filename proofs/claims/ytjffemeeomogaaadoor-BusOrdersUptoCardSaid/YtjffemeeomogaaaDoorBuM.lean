/- Plain facts on turns (P10.3, P10.6) and on what is put into an ordered list. No program in it. -/
import Derived.Test.YtjffemeeomogaaaDoorStM
namespace Go.Proofs.YtjffemeeomogaaaDoor.Bu
open St

theorem ins_ok {α : Type} {key : α → Int} {l P S : List α} {x : α} (hs : Srt key (P ++ S)) (hf : Fe key l (P ++ S)) (hp : ∀ y ∈ P, key y ≤ key x) (hq : ∀ y ∈ S, key x < key y) : Srt key (P ++ x :: S) ∧ Fe key (l ++ [x]) (P ++ x :: S) := by
  obtain ⟨s1, s2, s3⟩ := List.pairwise_append.1 hs
  refine ⟨List.pairwise_append.2 ⟨s1, List.pairwise_cons.2 ⟨fun y hy => Int.le_of_lt (hq y hy), s2⟩, fun y hy z hz => ?_⟩, ?_⟩
  · rcases List.mem_cons.1 hz with rfl | hz
    · exact hp y hy
    · exact s3 y hy z hz
  · have h1 : Fe key (S ++ [x]) ([x] ++ S) := Fe.turn fun y hy z hz => by
      rw [List.mem_singleton.1 hz]
      exact hq y hy
    have h2 := hf.app (Fe.refl (key := key) [x])
    rw [List.append_assoc] at h2
    have h3 := (Fe.refl (key := key) P).app h1
    exact h2.trans h3

/-! ### Turns -/
def sumI (l : List Int) : Int := l.foldr (· + ·) 0
theorem sumI_cons (x : Int) (l : List Int) : sumI (x :: l) = x + sumI l := rfl
theorem sumI_app (l m : List Int) : sumI (l ++ m) = sumI l + sumI m := by
  induction l with
  | nil => show _ = 0 + _; rw [Int.zero_add]; rfl
  | cons x l ih => rw [List.cons_append, sumI_cons, sumI_cons, ih]; omega
/-- The first of the greatest. -/
def Best (l : List Int) (b : Nat) : Prop := b < l.length ∧ (∀ i, i < l.length → l.getD i 0 ≤ l.getD b 0) ∧ ∀ i, i < b → l.getD i 0 < l.getD b 0
theorem Best.same {l : List Int} {b c : Nat} (h : Best l b) (g : Best l c) : b = c := by
  rcases Nat.lt_trichotomy b c with hlt | e | hlt
  · have := g.2.2 b hlt
    have := h.2.1 c g.1
    omega
  · exact e
  · have := h.2.2 c hlt
    have := g.2.1 b h.1
    omega
/-- What the best one of k is, is told of the first k alone. -/
def BestTo (l : List Int) (k b : Nat) : Prop := b < k ∧ (∀ i, i < k → l.getD i 0 ≤ l.getD b 0) ∧ ∀ i, i < b → l.getD i 0 < l.getD b 0
theorem BestTo.one (l : List Int) : BestTo l 1 0 := ⟨by omega, fun i hi => by rw [show i = 0 by omega]; exact Int.le_refl _, fun i hi => absurd hi (by omega)⟩
theorem BestTo.next {l : List Int} {k b : Nat} (h : BestTo l k b) (c : ¬ l.getD b 0 < l.getD k 0) : BestTo l (k + 1) b := ⟨by have := h.1; omega, fun i hi => by
  by_cases e : i = k
  · subst e; omega
  · exact h.2.1 i (by omega), h.2.2⟩
theorem BestTo.new {l : List Int} {k b : Nat} (h : BestTo l k b) (c : l.getD b 0 < l.getD k 0) : BestTo l (k + 1) k := ⟨by omega, fun i hi => by
  by_cases e : i = k
  · subst e; exact Int.le_refl _
  · have := h.2.1 i (by omega); omega, fun i hi => by have := h.2.1 i hi; omega⟩
/-- All credits grown. -/
def grown (cs ws : List Int) : List Int := List.zipWith (· + ·) cs ws
theorem grown_len {cs ws : List Int} (h : cs.length = ws.length) : (grown cs ws).length = ws.length := by simp [grown, h]
theorem grown_get {cs ws : List Int} (h : cs.length = ws.length) (i : Nat) : (grown cs ws).getD i 0 = cs.getD i 0 + ws.getD i 0 := by
  unfold grown
  by_cases hi : i < ws.length
  · simp [List.getD_eq_getElem?_getD, List.getElem?_zipWith, hi, show i < cs.length by omega]
  · simp [List.getD_eq_getElem?_getD, List.getElem?_zipWith, List.getElem?_eq_none (show ws.length ≤ i by omega), List.getElem?_eq_none (show cs.length ≤ i by omega)]
theorem grown_sum : ∀ {cs ws : List Int}, cs.length = ws.length → sumI (grown cs ws) = sumI cs + sumI ws
  | [], [], _ => rfl
  | c :: cs, w :: ws, h => by
    have := grown_sum (cs := cs) (ws := ws) (by simpa using h)
    show c + w + sumI (grown cs ws) = c + sumI cs + (w + sumI ws)
    omega
theorem sum_set : ∀ (l : List Int) (i : Nat) (x : Int), i < l.length → sumI (l.set i x) = sumI l - l.getD i 0 + x
  | [], i, x, h => absurd h (by simp)
  | y :: l, 0, x, _ => by show x + sumI l = y + sumI l - y + x; omega
  | y :: l, i + 1, x, h => by
    have := sum_set l i x (by simpa using h)
    show y + sumI (l.set i x) = y + sumI l - l.getD i 0 + x
    omega
/-- Behind one turn. -/
def paid (d : List Int) (b : Nat) (all : Int) : List Int := d.set b (d.getD b 0 - all)
/-- Behind k turns the credits are cs, and ts had them. -/
inductive Tn (ws : List Int) (all : Int) : Nat → List Int → List Nat → Prop where
  | zero : Tn ws all 0 (List.replicate ws.length 0) []
  | step {k : Nat} {cs : List Int} {ts : List Nat} {b : Nat} (h : Tn ws all k cs ts) (hb : Best (grown cs ws) b) : Tn ws all (k + 1) (paid (grown cs ws) b all) (ts ++ [b])
theorem Tn.same {ws : List Int} {all : Int} {k : Nat} {cs ds : List Int} {ts us : List Nat} (h : Tn ws all k cs ts) (g : Tn ws all k ds us) : cs = ds ∧ ts = us := by
  induction h generalizing ds us with
  | zero => cases g; exact ⟨rfl, rfl⟩
  | step h hb ih =>
    cases g with
    | step g gb =>
      obtain ⟨rfl, rfl⟩ := ih g
      rw [hb.same gb]
      exact ⟨rfl, rfl⟩
theorem Tn.len {ws : List Int} {all : Int} {k : Nat} {cs : List Int} {ts : List Nat} (h : Tn ws all k cs ts) : cs.length = ws.length ∧ ts.length = k := by
  induction h with
  | zero => simp
  | step h hb ih => exact ⟨by simp [paid, grown_len ih.1], by simp [ih.2]⟩
/-- No credit is greater than so many turns can make it, nor less. -/
theorem Tn.bound {ws : List Int} {all : Int} {k : Nat} {cs : List Int} {ts : List Nat} (h : Tn ws all k cs ts) (hw : ∀ i, i < ws.length → 0 ≤ ws.getD i 0 ∧ ws.getD i 0 ≤ 1125899906842624) (h0 : 0 ≤ all) (ha : all ≤ 1125899906842624) :
    ∀ i, i < ws.length → -(k * 1125899906842624 : Int) ≤ cs.getD i 0 ∧ cs.getD i 0 ≤ (k * 1125899906842624 : Int) := by
  induction h with
  | zero => intro i hi; simp [List.getD_eq_getElem?_getD, hi]
  | @step k cs ts b h hb ih =>
    intro i hi
    have h1 := ih i hi
    have h2 := hw i hi
    have h3 := grown_get h.len.1 i
    unfold paid
    have hbl := hb.1
    by_cases e : i = b
    · subst e
      rw [List.getD_eq_getElem?_getD, List.getElem?_set_self hbl]
      simp only [Option.getD_some]
      omega
    · rw [List.getD_eq_getElem?_getD, List.getElem?_set_ne (fun h => e h.symm), ← List.getD_eq_getElem?_getD]
      omega
theorem some_pos : ∀ (l : List Int), 0 < sumI l → ∃ i, i < l.length ∧ 0 < l.getD i 0
  | [], h => absurd h (by decide)
  | x :: l, h => by
    by_cases hx : 0 < x
    · exact ⟨0, by simp, hx⟩
    · rw [sumI_cons] at h
      obtain ⟨i, hi, hp⟩ := some_pos l (by omega)
      exact ⟨i + 1, by simpa using hi, hp⟩
/-- How often b had it. -/
def had (ts : List Nat) (i : Nat) : Int := (ts.filter (· == i)).length
theorem had_snoc (ts : List Nat) (b i : Nat) : had (ts ++ [b]) i = had ts i + if b = i then 1 else 0 := by
  unfold had
  rw [List.filter_append]
  by_cases h : b = i <;> simp [h]
theorem Tn.credit {ws : List Int} {all : Int} {k : Nat} {cs : List Int} {ts : List Nat} (h : Tn ws all k cs ts) (hall : all = sumI ws) (hp : 0 < all) (hw : ∀ i, i < ws.length → 0 ≤ ws.getD i 0) :
    sumI cs = 0 ∧ ∀ i, i < ws.length → cs.getD i 0 = k * ws.getD i 0 - had ts i * all ∧ -all < cs.getD i 0 := by
  induction h with
  | zero =>
    refine ⟨?_, fun i hi => ?_⟩
    · generalize ws.length = n
      induction n with
      | zero => rfl
      | succ n ih => rw [List.replicate_succ, sumI_cons, ih]; rfl
    · simp [List.getD_eq_getElem?_getD, hi, had]
      exact hp
  | @step k cs ts b h hb ih =>
    obtain ⟨s0, hi0⟩ := ih
    have hl := h.len.1
    have hbl : b < (grown cs ws).length := hb.1
    have hbw : b < ws.length := by rw [grown_len hl] at hbl; exact hbl
    have hs : sumI (grown cs ws) = all := by rw [grown_sum hl, s0, ← hall]; omega
    refine ⟨by unfold paid; rw [sum_set _ _ _ hbl, hs]; omega, fun i hi => ?_⟩
    obtain ⟨c1, c2⟩ := hi0 i hi
    have h3 := grown_get hl i
    unfold paid
    rw [had_snoc]
    by_cases e : b = i
    · subst e
      obtain ⟨j, hj, hjp⟩ := some_pos (grown cs ws) (by rw [hs]; exact hp)
      have := hb.2.1 j hj
      rw [List.getD_eq_getElem?_getD, List.getElem?_set_self hbl, if_pos rfl]
      simp only [Option.getD_some]
      refine ⟨?_, by omega⟩
      rw [h3, c1, Int.add_mul, Int.one_mul]
      push_cast
      rw [Int.add_mul, Int.one_mul]
      omega
    · have := hw i hi
      rw [List.getD_eq_getElem?_getD, List.getElem?_set_ne e, ← List.getD_eq_getElem?_getD, if_neg e]
      refine ⟨?_, by omega⟩
      rw [h3, c1]
      push_cast
      rw [Int.add_mul, Int.one_mul, Int.add_zero]
      omega
theorem all_zero : ∀ (l : List Int), (∀ i, i < l.length → 0 ≤ l.getD i 0) → sumI l = 0 → ∀ i, i < l.length → l.getD i 0 = 0
  | [], _, _, i, hi => absurd hi (by simp)
  | x :: l, h, hs, i, hi => by
    have h0 : 0 ≤ x := h 0 (by simp)
    have hl : ∀ i, i < l.length → 0 ≤ l.getD i 0 := fun i hi => h (i + 1) (by simpa using hi)
    have nn : ∀ l : List Int, (∀ i, i < l.length → 0 ≤ l.getD i 0) → 0 ≤ sumI l := by
      intro l
      induction l with
      | nil => intro _; exact Int.le_refl _
      | cons y l ih =>
        intro h
        rw [sumI_cons]
        have := h 0 (by simp)
        have := ih fun i hi => h (i + 1) (by simpa using hi)
        simp at *
        omega
    rw [sumI_cons] at hs
    have := nn l hl
    cases i with
    | zero => simp; omega
    | succ i => exact all_zero l hl (by omega) i (by simpa using hi)
/-- In as many turns as all together each has its own. -/
theorem Tn.whole {ws : List Int} {all : Int} {k : Nat} {cs : List Int} {ts : List Nat} (h : Tn ws all k cs ts) (hall : all = sumI ws) (hp : 0 < all) (hw : ∀ i, i < ws.length → 0 ≤ ws.getD i 0) (hk : (k : Int) = all) :
    ∀ i, i < ws.length → had ts i = ws.getD i 0 := by
  obtain ⟨s0, hc⟩ := h.credit hall hp hw
  have hz := all_zero cs (fun i hi => by
    obtain ⟨c1, c2⟩ := hc i (by rw [← h.len.1]; exact hi)
    rw [hk] at c1
    have e : cs.getD i 0 = (ws.getD i 0 - had ts i) * all := by rw [c1, Int.sub_mul, Int.mul_comm all]
    rw [e] at c2 ⊢
    by_cases hn : ws.getD i 0 - had ts i < 0
    · have := Int.mul_le_mul_of_nonneg_right (show ws.getD i 0 - had ts i ≤ -1 by omega) (Int.le_of_lt hp)
      omega
    · exact Int.mul_nonneg (by omega) (Int.le_of_lt hp)) s0
  intro i hi
  obtain ⟨c1, _⟩ := hc i hi
  rw [hz i (by rw [h.len.1]; exact hi), hk] at c1
  have e : (ws.getD i 0 - had ts i) * all = 0 := by rw [Int.sub_mul, Int.mul_comm _ all]; omega
  rcases Int.mul_eq_zero.1 e with e | e <;> omega
end Go.Proofs.YtjffemeeomogaaaDoor.Bu
