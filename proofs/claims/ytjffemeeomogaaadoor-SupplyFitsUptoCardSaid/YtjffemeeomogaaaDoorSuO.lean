/- Windows that may be, made of pairs; what Meet has of parts (P9.6). -/
import Derived.Test.YtjffemeeomogaaaDoorSuK
namespace Go.Proofs.YtjffemeeomogaaaDoor.Su
open Go.ChangeShapes Go.WideShapes Go.ChangeAt Go.RowKit Own Ro

def m26 (i : Int) : Int := (i.tmod 67108864 + 67108864).tmod 67108864
theorem m26_rng (i : Int) : (-67108864 < i.tmod 67108864 ∧ i.tmod 67108864 < 67108864) ∧ 0 ≤ m26 i ∧ m26 i < 67108864 := by
  have h1 : -67108864 < i.tmod 67108864 ∧ i.tmod 67108864 < 67108864 := by
    refine ⟨?_, Int.tmod_lt_of_pos _ (by omega)⟩
    by_cases h : 0 ≤ i
    · have := Int.tmod_nonneg 67108864 h; omega
    · have h2 := Int.tmod_lt_of_pos (-i) (b := 67108864) (by omega)
      rw [Int.neg_tmod] at h2; omega
  exact ⟨h1, Int.tmod_nonneg 67108864 (by omega), Int.tmod_lt_of_pos _ (by omega)⟩
def ft (p : Pr) : Pr := (minI (m26 p.1) (m26 p.2), maxI (m26 p.1) (m26 p.2))
theorem ft_ok (p : Pr) : 0 ≤ (ft p).1 ∧ (ft p).1 ≤ (ft p).2 ∧ (ft p).2 < 67108864 := by
  obtain ⟨_, a1, a2⟩ := m26_rng p.1
  obtain ⟨_, b1, b2⟩ := m26_rng p.2
  unfold ft minI maxI
  dsimp only
  split <;> split <;> omega
theorem ft_at (l : List Pr) (k : Nat) (h : k < l.length) : (l.map ft).getD k (0, 0) = ft (l.getD k (0, 0)) := by
  rw [List.getD_eq_getElem?_getD, List.getElem?_map, some_at l (0, 0) k h]
  rfl
/-- Windows all of which may be. -/
def Fine (F : List Pr) : Prop := ∀ p ∈ F, 0 ≤ p.1 ∧ p.1 ≤ p.2 ∧ p.2 ≤ 1099511627776
theorem fine_fit (l : List Pr) : Fine (l.map ft) := by
  intro p hp
  obtain ⟨q, _, rfl⟩ := List.mem_map.1 hp
  have := ft_ok q
  omega
theorem fine_all {F : List Pr} (h : Fine F) : mayAll F := by
  intro i hi
  have hm : F.getD i (0, 0) ∈ F := by
    rw [List.getD_eq_getElem?_getD, List.getElem?_eq_getElem hi]
    exact List.getElem_mem hi
  have := h _ hm
  unfold mayW
  rw [decide_eq_true this.1, decide_eq_true this.2.1, decide_eq_true this.2.2]
  rfl
theorem lo_from (F : List Pr) : ∀ a : Int, (∀ p ∈ F, p.1 ≤ F.foldl (fun a p => maxI a p.1) a) ∧ a ≤ F.foldl (fun a p => maxI a p.1) a ∧ ∀ v, a ≤ v → (∀ p ∈ F, p.1 ≤ v) → F.foldl (fun a p => maxI a p.1) a ≤ v := by
  induction F with
  | nil => intro a; exact ⟨fun p hp => absurd hp (by simp), Int.le_refl _, fun v h _ => h⟩
  | cons q F ih =>
    intro a
    obtain ⟨i1, i2, i3⟩ := ih (maxI a q.1)
    have hm : a ≤ maxI a q.1 ∧ q.1 ≤ maxI a q.1 ∧ ∀ v, a ≤ v → q.1 ≤ v → maxI a q.1 ≤ v := by
      unfold maxI
      refine ⟨?_, ?_, fun v h1 h2 => ?_⟩ <;> split <;> omega
    rw [List.foldl_cons]
    refine ⟨fun p hp => ?_, by omega, fun v h1 h2 => i3 v (hm.2.2 v h1 (h2 q (by simp))) fun p hp => h2 p (by simp [hp])⟩
    rcases List.mem_cons.1 hp with rfl | hp
    · omega
    · exact i1 p hp
theorem hi_from (F : List Pr) : ∀ a : Int, (∀ p ∈ F, F.foldl (fun a p => minI a p.2) a ≤ p.2) ∧ F.foldl (fun a p => minI a p.2) a ≤ a ∧ ∀ v, v ≤ a → (∀ p ∈ F, v ≤ p.2) → v ≤ F.foldl (fun a p => minI a p.2) a := by
  induction F with
  | nil => intro a; exact ⟨fun p hp => absurd hp (by simp), Int.le_refl _, fun v h _ => h⟩
  | cons q F ih =>
    intro a
    obtain ⟨i1, i2, i3⟩ := ih (minI a q.2)
    have hm : minI a q.2 ≤ a ∧ minI a q.2 ≤ q.2 ∧ ∀ v, v ≤ a → v ≤ q.2 → v ≤ minI a q.2 := by
      unfold minI
      refine ⟨?_, ?_, fun v h1 h2 => ?_⟩ <;> split <;> omega
    rw [List.foldl_cons]
    refine ⟨fun p hp => ?_, by omega, fun v h1 h2 => i3 v (hm.2.2 v h1 (h2 q (by simp))) fun p hp => h2 p (by simp [hp])⟩
    rcases List.mem_cons.1 hp with rfl | hp
    · omega
    · exact i1 p hp
/-- Within all windows: within what they have in common. -/
theorem in_all (F : List Pr) (v : Int) : (loF F ≤ v ∧ v ≤ hiF F) ↔ ((0 ≤ v ∧ v ≤ 1099511627776) ∧ ∀ p ∈ F, p.1 ≤ v ∧ v ≤ p.2) := by
  obtain ⟨a1, a2, a3⟩ := lo_from F 0
  obtain ⟨b1, b2, b3⟩ := hi_from F 1099511627776
  constructor
  · rintro ⟨h1, h2⟩
    exact ⟨⟨Int.le_trans a2 h1, Int.le_trans h2 b2⟩, fun p hp => ⟨Int.le_trans (a1 p hp) h1, Int.le_trans h2 (b1 p hp)⟩⟩
  · rintro ⟨⟨h1, h2⟩, h3⟩
    exact ⟨a3 v h1 fun p hp => (h3 p hp).1, b3 v h2 fun p hp => (h3 p hp).2⟩
theorem lo_parts (F G : List Pr) : loF (F ++ G) = maxI (loF F) (loF G) := by
  obtain ⟨a1, a2, a3⟩ := lo_from F 0
  obtain ⟨b1, b2, b3⟩ := lo_from G 0
  obtain ⟨c1, c2, c3⟩ := lo_from (F ++ G) 0
  change ∀ p ∈ F, p.1 ≤ loF F at a1
  change 0 ≤ loF F at a2
  change ∀ v, 0 ≤ v → (∀ p ∈ F, p.1 ≤ v) → loF F ≤ v at a3
  change ∀ p ∈ G, p.1 ≤ loF G at b1
  change 0 ≤ loF G at b2
  change ∀ v, 0 ≤ v → (∀ p ∈ G, p.1 ≤ v) → loF G ≤ v at b3
  change ∀ p ∈ F ++ G, p.1 ≤ loF (F ++ G) at c1
  change 0 ≤ loF (F ++ G) at c2
  change ∀ v, 0 ≤ v → (∀ p ∈ F ++ G, p.1 ≤ v) → loF (F ++ G) ≤ v at c3
  have d1 := a3 _ c2 fun p hp => c1 p (by simp [hp])
  have d2 := b3 _ c2 fun p hp => c1 p (by simp [hp])
  have d3 := c3 (maxI (loF F) (loF G)) (by unfold maxI; split <;> omega) fun p hp => by
    rcases List.mem_append.1 hp with hp | hp
    · have := a1 p hp; unfold maxI; split <;> omega
    · have := b1 p hp; unfold maxI; split <;> omega
  unfold maxI at d3 ⊢
  split at d3 <;> split <;> omega
theorem hi_parts (F G : List Pr) : hiF (F ++ G) = minI (hiF F) (hiF G) := by
  obtain ⟨a1, a2, a3⟩ := hi_from F 1099511627776
  obtain ⟨b1, b2, b3⟩ := hi_from G 1099511627776
  obtain ⟨c1, c2, c3⟩ := hi_from (F ++ G) 1099511627776
  change ∀ p ∈ F, hiF F ≤ p.2 at a1
  change hiF F ≤ 1099511627776 at a2
  change ∀ v, v ≤ 1099511627776 → (∀ p ∈ F, v ≤ p.2) → v ≤ hiF F at a3
  change ∀ p ∈ G, hiF G ≤ p.2 at b1
  change hiF G ≤ 1099511627776 at b2
  change ∀ v, v ≤ 1099511627776 → (∀ p ∈ G, v ≤ p.2) → v ≤ hiF G at b3
  change ∀ p ∈ F ++ G, hiF (F ++ G) ≤ p.2 at c1
  change hiF (F ++ G) ≤ 1099511627776 at c2
  change ∀ v, v ≤ 1099511627776 → (∀ p ∈ F ++ G, v ≤ p.2) → v ≤ hiF (F ++ G) at c3
  have d1 := a3 _ c2 fun p hp => c1 p (by simp [hp])
  have d2 := b3 _ c2 fun p hp => c1 p (by simp [hp])
  have d3 := c3 (minI (hiF F) (hiF G)) (by unfold minI; split <;> omega) fun p hp => by
    rcases List.mem_append.1 hp with hp | hp
    · have := a1 p hp; unfold minI; split <;> omega
    · have := b1 p hp; unfold minI; split <;> omega
  unfold minI at d3 ⊢
  split at d3 <;> split <;> omega
theorem lo_nn (F : List Pr) : 0 ≤ loF F := (lo_from F 0).2.1
theorem hi_mx (F : List Pr) : hiF F ≤ 1099511627776 := (hi_from F 1099511627776).2.1
/-- The windows of two parts have in common what all have. -/
theorem two_parts {F : List Pr} (n : Nat) (h1 : ¬ hiF (F.drop n) < loF (F.drop n)) (h2 : ¬ hiF (F.take n) < loF (F.take n)) (h : Fine F) : mt [(loF (F.drop n), hiF (F.drop n)), (loF (F.take n), hiF (F.take n))] = mt F := by
  have l1 := lo_nn (F.drop n)
  have l2 := lo_nn (F.take n)
  have u1 := hi_mx (F.drop n)
  have u2 := hi_mx (F.take n)
  have e1 : loF [(loF (F.drop n), hiF (F.drop n)), (loF (F.take n), hiF (F.take n))] = loF F := by
    rw [← List.take_append_drop n F, lo_parts]
    rw [List.take_append_drop n F]
    show maxI (maxI 0 (loF (F.drop n))) (loF (F.take n)) = _
    unfold maxI
    split <;> split <;> (try split) <;> omega
  have e2 : hiF [(loF (F.drop n), hiF (F.drop n)), (loF (F.take n), hiF (F.take n))] = hiF F := by
    rw [← List.take_append_drop n F, hi_parts]
    rw [List.take_append_drop n F]
    show minI (minI 1099511627776 (hiF (F.drop n))) (hiF (F.take n)) = _
    unfold minI
    split <;> split <;> (try split) <;> omega
  have hf : Fine [(loF (F.drop n), hiF (F.drop n)), (loF (F.take n), hiF (F.take n))] := by
    intro p hp
    simp at hp
    rcases hp with rfl | rfl
    · exact ⟨l1, by dsimp only; omega, u1⟩
    · exact ⟨l2, by dsimp only; omega, u2⟩
  by_cases hc : hiF F < loF F
  · rw [mt_none (fine_all h) hc, mt_none (fine_all hf) (by rw [e1, e2]; exact hc)]
  · rw [mt_some (fine_all h) hc, mt_some (fine_all hf) (by rw [e1, e2]; exact hc), e1, e2]
theorem part_none {F : List Pr} (n : Nat) (h : hiF (F.drop n) < loF (F.drop n) ∨ hiF (F.take n) < loF (F.take n)) : hiF F < loF F := by
  have e1 := lo_parts (F.take n) (F.drop n)
  have e2 := hi_parts (F.take n) (F.drop n)
  rw [List.take_append_drop] at e1 e2
  rw [e1, e2]
  unfold maxI minI
  split <;> split <;> omega
end Go.Proofs.YtjffemeeomogaaaDoor.Su
