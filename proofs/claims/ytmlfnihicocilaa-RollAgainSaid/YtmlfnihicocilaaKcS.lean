/- Two cards compared: the program's Same and the document's. -/
import Derived.Test.YtmlfnihicocilaaKcO
namespace Go.Proofs.Ytmlfnihicocilaa.Kc
open Go.ChangeShapes Go.WideShapes Go.ChangeAt Go.RowKit Own Ro wordsNames

theorem map_str_at (l : List (List UInt8)) (j : Nat) (h : j < l.length) : (l.map str).getD j ByteArray.empty = str (l.getD j []) := by
  rw [List.getD_eq_getElem?_getD, List.getD_eq_getElem?_getD, List.getElem?_map, List.getElem?_eq_getElem h]
  rfl
theorem map_str_inj {l l' : List (List UInt8)} (h : l.map str = l'.map str) : l = l' := by
  induction l generalizing l' with
  | nil => cases l' with
    | nil => rfl
    | cons y l' => cases h
  | cons x l ih => cases l' with
    | nil => cases h
    | cons y l' =>
      injection h with h1 h2
      rw [str_inj h1, ih h2]
theorem eqTexts_any (A B : Option Addr) (n c m d : Nat) (l l' : List (List UInt8)) (w : World) (hn : n = l.length) (hm : m = l'.length) (hnb : n ≤ 1099511627776) (hmb : m ≤ 1099511627776) (hA : CellsIn w 1 A n (strs l)) (hB : CellsIn w 1 B m (strs l')) :
    Calls Try.prog 26 #[.slice A n c, .slice B m d] w fun e w' => e = .returned (.bool (decide (l = l'))) ∧ ∃ q, w' = w.drewN q := by
  by_cases hnm : n = m
  · by_cases h0 : n = 0
    · subst h0
      refine (Try.slices_Equal_string_empty A B c m d w (by omega)).mono ?_
      rintro e w' ⟨rfl, rfl⟩
      refine ⟨?_, 0, rfl⟩
      have e1 : l = [] := List.eq_nil_of_length_eq_zero hn.symm
      have e2 : l' = [] := List.eq_nil_of_length_eq_zero (by omega)
      rw [e1, e2, decide_eq_true hnm.symm, decide_eq_true rfl]
    · obtain ⟨b, o, rfl, _, h1⟩ := hA.at (by omega)
      obtain ⟨b2, o2, rfl, _, h2⟩ := hB.at (by omega)
      refine (Try.slices_Equal_string b o n c b2 o2 m d (l.map str) (l'.map str) w (by simp; omega) (by simp; omega) (by omega) (by omega) (fun j hj => ?_) (fun j hj => ?_)).mono ?_
      · have hj' : j < l.length := by simpa using hj
        rw [map_str_at l j hj']
        exact h1 j _ (strs_at l j hj')
      · have hj' : j < l'.length := by simpa using hj
        rw [map_str_at l' j hj']
        exact h2 j _ (strs_at l' j hj')
      · rintro e w' ⟨rfl, q, rfl⟩
        refine ⟨ret_bool ?_, q, rfl⟩
        rw [List.take_of_length_le (by simp; omega), List.take_of_length_le (by simp; omega), Bool.eq_iff_iff, decide_eq_true_eq, decide_eq_true_eq]
        exact ⟨map_str_inj, fun h => by rw [h]⟩
  · refine (Try.slices_Equal_string_lens A B n c m d w hnm).mono ?_
    rintro e w' ⟨rfl, rfl⟩
    exact ⟨ret_bool (decide_eq_false fun e => hnm (by rw [hn, hm, e])).symm, 0, rfl⟩
theorem cd_ext (a b : Cd) : a = b ↔ a.name = b.name ∧ a.fam = b.fam ∧ a.level = b.level ∧ a.compat = b.compat ∧ a.score = b.score ∧ a.quirk = b.quirk ∧ a.entry = b.entry := by
  obtain ⟨a1, a2, a3, a4, a5, a6, a7⟩ := a
  obtain ⟨b1, b2, b3, b4, b5, b6, b7⟩ := b
  simp
theorem or7 (a b c d e f g : Bool) : a = false ∨ (a = true ∧ b = false) ∨ (a = true ∧ b = true ∧ c = false) ∨ (a = true ∧ b = true ∧ c = true ∧ d = false) ∨ (a = true ∧ b = true ∧ c = true ∧ d = true ∧ e = false) ∨ (a = true ∧ b = true ∧ c = true ∧ d = true ∧ e = true ∧ f = false) ∨
    (a = true ∧ b = true ∧ c = true ∧ d = true ∧ e = true ∧ f = true ∧ g = false) ∨ (a = true ∧ b = true ∧ c = true ∧ d = true ∧ e = true ∧ f = true ∧ g = true) := by
  cases a <;> cases b <;> cases c <;> cases d <;> cases e <;> cases f <;> cases g <;> simp
theorem int_eqb (a b : Int) : (a == b) = decide (a = b) := by rw [Bool.eq_iff_iff]; simp
set_option maxRecDepth 100000 in
set_option maxHeartbeats 16000000 in
theorem same_any (a b : Cd) (r s : Sl) (g : Bool) (w : World) (hg : g = true ↔ a = b) (hma : MildC 1099511627776 a) (hmb : MildC 1099511627776 b) (hr : r.2.1 = a.compat.length) (hs : s.2.1 = b.compat.length)
    (hA : CellsIn w 1 r.1 r.2.1 (strs a.compat)) (hB : CellsIn w 1 s.1 s.2.1 (strs b.compat)) :
    Calls Try.prog 19 #[cardV a r, cardV b s] w fun e w' => e = .returned (.bool g) ∧ Below w.heap.size w w' := by
  have B1 := Lib.hid (grows' w (.cells (cells7 a r) 34))
  have B2 := Lib.hid (bt B1.out (grows' (w.alloc (.cells (cells7 a r) 34)) (.cells (cells7 b s) 34)))
  have HEQ := Lib.hid fun W (hW : Below w.heap.size w W) => eqTexts_any r.1 s.1 r.2.1 r.2.2 s.2.1 s.2.2 a.compat b.compat W hr hs (by have := hma.2.2.2.1; omega) (by have := hmb.2.2.2.1; omega) (hA.below hW) (hB.below hW)
  have HG : Hid (g = (decide (a.name = b.name) && decide (a.fam = b.fam) && decide (a.level = b.level) && decide (a.compat = b.compat) && decide (a.score = b.score) && decide (a.quirk = b.quirk) && decide (a.entry = b.entry))) := Lib.hid (by
    rw [Bool.eq_iff_iff, hg, cd_ext]
    simp [and_assoc])
  have q1 := eq_lists a.name b.name
  have q2 := eq_lists a.fam b.fam
  have q3 := int_eqb a.level b.level
  have q5 := int_eqb a.score b.score
  have q6 := eq_lists a.quirk b.quirk
  have q7 := int_eqb a.entry b.entry
  have C : ∀ (j : Nat) (v : Value), (cells7 a r)[j]? = some v → ((w.alloc (.cells (cells7 a r) 34)).alloc (.cells (cells7 b s) 34)).cell? ⟨w.heap.size, j, none⟩ = some v := fun j v h => by
    rw [(grows' (w.alloc (.cells (cells7 a r) 34)) _).cell (p := ⟨w.heap.size, j, none⟩) (by simp)]
    exact box7s w a r _ j v h
  have D : ∀ (j : Nat) (v : Value), (cells7 b s)[j]? = some v → ((w.alloc (.cells (cells7 a r) 34)).alloc (.cells (cells7 b s) 34)).cell? ⟨w.heap.size + 1, j, none⟩ = some v := fun j v h => by
    have := box7s (w.alloc (.cells (cells7 a r) 34)) b s 34 j v h
    have e : (w.alloc (.cells (cells7 a r) 34)).heap.size = w.heap.size + 1 := by simp
    rw [e] at this
    exact this
  have c0 := C 0 _ rfl
  have c1 := C 1 _ rfl
  have c2 := C 2 _ rfl
  have c3 := C 3 _ rfl
  have c4 := C 4 _ rfl
  have c5 := C 5 _ rfl
  have c6 := C 6 _ rfl
  have d0 := D 0 _ rfl
  have d1 := D 1 _ rfl
  have d2 := D 2 _ rfl
  have d3 := D 3 _ rfl
  have d4 := D 4 _ rfl
  have d5 := D 5 _ rfl
  have d6 := D 6 _ rfl
  clear C D hg hma hmb hr hs hA hB
  unfold cardV
  unfold cells7 at c0 c1 c2 c3 c4 c5 c6 d0 d1 d2 d3 d4 d5 d6 B1 B2 ⊢
  obtain ⟨nm, fm, lv, cp, sc, qk, en⟩ := a
  obtain ⟨nm2, fm2, lv2, cp2, sc2, qk2, en2⟩ := b
  obtain ⟨ra, rn, rc⟩ := r
  obtain ⟨sa, sn, sd⟩ := s
  simp only [slV] at c0 c1 c2 c3 c4 c5 c6 d0 d1 d2 d3 d4 d5 d6 B1 B2 HEQ HG q1 q2 q3 q5 q6 q7 ⊢
  generalize decide (nm = nm2) = g1 at HG q1
  generalize decide (fm = fm2) = g2 at HG q2
  generalize decide (lv = lv2) = g3 at HG q3
  generalize decide (cp = cp2) = g4 at HG HEQ
  generalize decide (sc = sc2) = g5 at HG q5
  generalize decide (qk = qk2) = g6 at HG q6
  generalize decide (en = en2) = g7 at HG q7
  generalize str nm = S1 at c0 c1 c2 c3 c4 c5 c6 d0 d1 d2 d3 d4 d5 d6 B1 B2 q1 ⊢
  generalize str fm = S2 at c0 c1 c2 c3 c4 c5 c6 d0 d1 d2 d3 d4 d5 d6 B1 B2 q2 ⊢
  generalize str qk = S3 at c0 c1 c2 c3 c4 c5 c6 d0 d1 d2 d3 d4 d5 d6 B1 B2 q6 ⊢
  generalize str nm2 = T1 at c0 c1 c2 c3 c4 c5 c6 d0 d1 d2 d3 d4 d5 d6 B2 q1 ⊢
  generalize str fm2 = T2 at c0 c1 c2 c3 c4 c5 c6 d0 d1 d2 d3 d4 d5 d6 B2 q2 ⊢
  generalize str qk2 = T3 at c0 c1 c2 c3 c4 c5 c6 d0 d1 d2 d3 d4 d5 d6 B2 q6 ⊢
  clear B1
  rcases or7 g1 g2 g3 g4 g5 g6 g7 with rfl | ⟨rfl, rfl⟩ | ⟨rfl, rfl, rfl⟩ | ⟨rfl, rfl, rfl, rfl⟩ | ⟨rfl, rfl, rfl, rfl, rfl⟩ | ⟨rfl, rfl, rfl, rfl, rfl, rfl⟩ | ⟨rfl, rfl, rfl, rfl, rfl, rfl, rfl⟩ | ⟨rfl, rfl, rfl, rfl, rfl, rfl, rfl⟩
  all_goals
    go_enter Try.func19, Try.ntmps19
    go_wp2_with (go_at_call 26; refine (HEQ.out _ B2.out).mono ?_; rintro e w5 ⟨rfl, q, rfl⟩)
    go_ret
    rw [HG.out]
    exact ⟨rfl, by first | exact B2.out | exact below_dr B2.out _⟩
end Go.Proofs.Ytmlfnihicocilaa.Kc
