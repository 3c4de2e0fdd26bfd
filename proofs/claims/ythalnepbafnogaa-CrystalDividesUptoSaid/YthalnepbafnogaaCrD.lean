/- Dividers and chains of them (P8.2): the program's and the document's. -/
import Derived.Test.YthalnepbafnogaaChecked
import Derived.Test.YthalnepbafnogaaRo
namespace Go.Proofs.Ythalnepbafnogaa.Cr
open Go.ChangeShapes Go.WideShapes Go.ChangeAt Go.RowKit Own Ro

def i64s (l : List Int) : List Value := l.map (.int .i64)
theorem i64s_len (l : List Int) : (i64s l).length = l.length := by simp [i64s]
theorem one_i64s (l : List Int) : ∀ u ∈ i64s l, u.oneCell' = true := by intro u hu; simp [i64s] at hu; obtain ⟨x, _, rfl⟩ := hu; rfl
theorem i64s_at (l : List Int) (i : Nat) (h : i < l.length) : (i64s l)[i]? = some (.int .i64 (l.getD i 0)) := by
  unfold i64s
  rw [List.getElem?_map, some_at l 0 i h]
  rfl
def okD (d : Int) : Bool := decide (1 ≤ d ∧ d ≤ 65535)
/-- What is left behind dividers, each of which may be. -/
def chV : Int → List Int → Int
  | x, [] => x
  | x, d :: l => chV (x / d) l
theorem chV_snoc (x : Int) (l : List Int) (d : Int) : chV x (l ++ [d]) = chV x l / d := by
  induction l generalizing x with
  | nil => rfl
  | cons a l ih => exact ih _
/-- The answer of Chain. -/
def chain (from_ : Int) (l : List Int) : Int × Int :=
  if from_ < 0 ∨ 1099511627776 < from_ ∨ 64 < l.length then (0, 1) else if l.all okD = true then (chV from_ l, 0) else (0, 1)
def divV (f w : Int) : Int := (f + w - 1) / w
def badW (f w : Int) : Prop := f < 1 ∨ 1099511627776 < f ∨ w < 1 ∨ 1099511627776 < w
instance (f w : Int) : Decidable (badW f w) := by unfold badW; infer_instance
def divide (f w : Int) : Int × Int := if badW f w then (0, 1) else if okD (divV f w) = true then (divV f w, 0) else (0, 6)
set_option maxRecDepth 100000 in
set_option maxHeartbeats 8000000 in
theorem isDivider_any (i : Int) (w : World) : Calls Try.prog 12 #[.int .i64 i] w (fun e w' => e = .returned (.bool (okD i)) ∧ w' = w) := by
  go_enter Try.func12, Try.ntmps12
  go_wp2_with fail
  · go_ret
    refine ⟨?_, rfl⟩
    simp_all [okD]
  · go_ret
    refine ⟨?_, rfl⟩
    rw [show okD i = false by unfold okD; simp; omega]
    rfl
set_option maxRecDepth 100000 in
set_option maxHeartbeats 8000000 in
theorem divider_bad (f w' : Int) (w : World) (h : badW f w') : Calls Try.prog 6 #[.int .i64 f, .int .i64 w'] w (fun e w2 => e = .returned (.tuple #[.int .i64 0, .int .i64 1]) ∧ w2 = w) := by
  unfold badW at h
  go_enter Try.func6, Try.ntmps6
  go_wp2_with fail
  all_goals first
    | (go_ret2; exact ⟨rfl, rfl⟩)
    | (exfalso; omega)
set_option maxRecDepth 100000 in
set_option maxHeartbeats 8000000 in
theorem divider_ok (f w' : Int) (w : World) (h : ¬ badW f w') : Calls Try.prog 6 #[.int .i64 f, .int .i64 w'] w (fun e w2 => e = .returned (.tuple #[.int .i64 (divide f w').1, .int .i64 (divide f w').2]) ∧ w2 = w) := by
  have HB := Lib.hid h
  unfold badW at h
  have h1 : 1 ≤ f := by omega
  have h2 : f ≤ 1099511627776 := by omega
  have h3 : 1 ≤ w' := by omega
  have h4 : w' ≤ 1099511627776 := by omega
  have H1 : decide (f < 1) = false := by simp; omega
  have H2 : decide (1099511627776 < f) = false := by simp; omega
  have H3 : decide (w' < 1) = false := by simp; omega
  have H4 : decide (1099511627776 < w') = false := by simp; omega
  go_enter Try.func6, Try.ntmps6
  go_wp2_with fail
  refine (isDivider_any _ w).mono ?_
  rintro e w1 ⟨rfl, rfl⟩
  cases hq : okD ((f + w' - 1) / w') with
  | true =>
    go_wp2_with fail
    go_ret2
    exact ⟨by unfold divide; rw [if_neg HB.out, if_pos (show okD (divV f w') = true from hq)]; rfl, rfl⟩
  | false =>
    go_wp2_with fail
    go_ret2
    exact ⟨by unfold divide; rw [if_neg HB.out, if_neg (show ¬ okD (divV f w') = true by rw [show okD (divV f w') = false from hq]; decide)]; rfl, rfl⟩
theorem divider_any (f w' : Int) (w : World) : Calls Try.prog 6 #[.int .i64 f, .int .i64 w'] w (fun e w2 => e = .returned (.tuple #[.int .i64 (divide f w').1, .int .i64 (divide f w').2]) ∧ w2 = w) := by
  by_cases h : badW f w'
  · refine (divider_bad f w' w h).mono ?_
    rintro e w2 ⟨rfl, rfl⟩
    exact ⟨by unfold divide; rw [if_pos h], rfl⟩
  · exact divider_ok f w' w h
theorem chain_bad (f : Int) (l : List Int) (h : f < 0 ∨ 1099511627776 < f ∨ 64 < l.length) : chain f l = (0, 1) := by unfold chain; rw [if_pos h]
theorem chV_bound (f : Int) (l : List Int) (h0 : 0 ≤ f) (hl : l.all okD = true) : 0 ≤ chV f l ∧ chV f l ≤ f := by
  induction l generalizing f with
  | nil => exact ⟨h0, Int.le_refl _⟩
  | cons d l ih =>
    simp only [List.all_cons, Bool.and_eq_true] at hl
    have hd : 1 ≤ d := by have := hl.1; unfold okD at this; simp at this; omega
    have h1 : 0 ≤ f / d := Int.ediv_nonneg h0 (by omega)
    have h2 : f / d ≤ f := Int.ediv_le_self _ h0
    obtain ⟨a, b⟩ := ih (f / d) h1 hl.2
    exact ⟨a, by show chV (f / d) l ≤ f; omega⟩
set_option maxRecDepth 100000 in
set_option maxHeartbeats 8000000 in
theorem chainP_bad (f : Int) (A : Option Addr) (c n : Nat) (l : List Int) (w : World) (hn : n = l.length) (h : f < 0 ∨ 1099511627776 < f ∨ 64 < l.length) :
    Calls Try.prog 8 #[.int .i64 f, .slice A n c] w (fun e w2 => e = .returned (.tuple #[.int .i64 0, .int .i64 1]) ∧ w2 = w) := by
  subst hn
  go_enter Try.func8, Try.ntmps8
  go_wp2_with fail
  all_goals first
    | (go_ret2; exact ⟨rfl, rfl⟩)
    | (exfalso; omega)
set_option maxRecDepth 100000 in
set_option maxHeartbeats 8000000 in
theorem chainP_ok (f : Int) (A : Option Addr) (c n : Nat) (l : List Int) (w : World) (hn : n = l.length) (hs : CellsIn w 1 A n (i64s l)) (h : ¬ (f < 0 ∨ 1099511627776 < f ∨ 64 < l.length)) :
    Calls Try.prog 8 #[.int .i64 f, .slice A n c] w (fun e w2 => e = .returned (.tuple #[.int .i64 (chain f l).1, .int .i64 (chain f l).2]) ∧ w2 = w) := by
  have HN := Lib.hid hn
  have GA := Lib.hid hs
  have HB := Lib.hid h
  have h1 : 0 ≤ f := by omega
  have h2 : f ≤ 1099511627776 := by omega
  have h3 : (n : Int) ≤ 64 := by omega
  have H1 : decide (f < 0) = false := by simp; omega
  have H2 : decide (1099511627776 < f) = false := by simp; omega
  have H3 : decide ((64 : Int) < (n : Int)) = false := by simp; omega
  clear hn hs h
  go_enter Try.func8, Try.ntmps8
  go_wp2_with fail
  go_loopw [0, 21] (fun v0 v21 wr => ∃ (k : Nat), k ≤ n ∧ (l.take k).all okD = true ∧ v0 = .int .i64 (chV f (l.take k)) ∧ v21 = .int .i64 (k : Int) ∧ wr = w) (fun _ v21 _ => n - (RowKit.intOf v21).toNat)
  case atStart => exact ⟨0, by omega, rfl, rfl, rfl, rfl⟩
  case round =>
    obtain ⟨k, hk, hall, rfl, rfl, rfl⟩ := hrel
    by_cases hlt : k < n
    · obtain ⟨b, o, rfl, hbs, hc1⟩ := GA.out.at (by omega)
      have e0 := hc1 k _ (i64s_at l k (by rw [← HN.out]; exact hlt))
      have HT := Lib.hid (takeS l 0 k (by rw [← HN.out]; exact hlt))
      have HM := Lib.hid (show l.getD k 0 ∈ l by
        rw [List.getD_eq_getElem?_getD, List.getElem?_eq_getElem (by rw [← HN.out]; exact hlt)]
        exact List.getElem_mem _)
      have hb2 := chV_bound f (l.take k) h1 hall
      have HA := Lib.hid hall
      generalize hg : l.getD k 0 = x at e0 HT HM
      clear hc1 hall hg
      go_wp2_with fail
      refine (isDivider_any _ _).mono ?_
      rintro e w1 ⟨rfl, rfl⟩
      cases hq : okD x with
      | false =>
        go_wp2_with fail
        go_ret2
        refine ⟨?_, rfl⟩
        have hnot : ¬ l.all okD = true := fun ha => by
          have := List.all_eq_true.1 ha x HM.out
          rw [hq] at this
          cases this
        unfold chain
        rw [if_neg HB.out, if_neg hnot]
        rfl
      | true =>
        have hd : 1 ≤ x ∧ x ≤ 65535 := by unfold okD at hq; simpa using hq
        have hd1 := hd.1
        have hd2 := hd.2
        have hb3 := hb2.1
        have hb4 := hb2.2
        go_wp2_with fail
        go_roundw
        case rel =>
          exact ⟨k + 1, by omega, by rw [HT.out, List.all_append, HA.out]; simp [hq], by rw [HT.out, chV_snoc], by go_num, trivial⟩
        case measure => simp [RowKit.intOf]; omega
    · obtain rfl : n = k := by omega
      go_wp2_with fail
      go_ret2
      refine ⟨?_, rfl⟩
      rw [HN.out, List.take_length] at hall ⊢
      unfold chain
      rw [if_neg HB.out, if_pos hall]
      rfl
theorem chain_any (f : Int) (A : Option Addr) (c n : Nat) (l : List Int) (w : World) (hn : n = l.length) (hs : CellsIn w 1 A n (i64s l)) :
    Calls Try.prog 8 #[.int .i64 f, .slice A n c] w (fun e w2 => e = .returned (.tuple #[.int .i64 (chain f l).1, .int .i64 (chain f l).2]) ∧ w2 = w) := by
  by_cases h : f < 0 ∨ 1099511627776 < f ∨ 64 < l.length
  · refine (chainP_bad f A c n l w hn h).mono ?_
    rintro e w2 ⟨rfl, rfl⟩
    exact ⟨by rw [chain_bad f l h], rfl⟩
  · exact chainP_ok f A c n l w hn hs h
end Go.Proofs.Ythalnepbafnogaa.Cr
