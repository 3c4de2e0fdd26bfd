/- Plain facts on sorting in place so that what is alike keeps its order: rows' segments, turned segments, merged segments. No program in it. -/
import Derived.Sort.Lot0
namespace Go.Proofs.YtjffemeeomogaaaDoor.St
open Go.Sort
variable {α : Type}

variable (key : α → Int)
def Srt (l : List α) : Prop := l.Pairwise fun x y => key x ≤ key y
/-- Of every key the same ones in the same order. -/
def Fe (l z : List α) : Prop := ∀ k : Int, z.filter (fun x => key x == k) = l.filter (fun x => key x == k)
variable {key}
theorem Fe.refl (l : List α) : Fe key l l := fun _ => rfl
theorem Fe.trans {l z y : List α} (h : Fe key l z) (g : Fe key z y) : Fe key l y := fun k => (g k).trans (h k)
theorem Fe.app {l z l' z' : List α} (h : Fe key l z) (g : Fe key l' z') : Fe key (l ++ l') (z ++ z') := fun k => by rw [List.filter_append, List.filter_append, h k, g k]
theorem Fe.mem {l z : List α} (h : Fe key l z) {x : α} : x ∈ z ↔ x ∈ l := by
  have h1 := h (key x)
  constructor
  · intro hx
    have : x ∈ z.filter (fun y => key y == key x) := List.mem_filter.2 ⟨hx, by simp⟩
    rw [h1] at this
    exact (List.mem_filter.1 this).1
  · intro hx
    have : x ∈ l.filter (fun y => key y == key x) := List.mem_filter.2 ⟨hx, by simp⟩
    rw [← h1] at this
    exact (List.mem_filter.1 this).1
/-- Two pieces that have no key in common may stand either way. -/
theorem Fe.turn {l z : List α} (h : ∀ x ∈ l, ∀ y ∈ z, key y < key x) : Fe key (l ++ z) (z ++ l) := fun k => by
  rw [List.filter_append, List.filter_append]
  by_cases hl : ∃ x ∈ l, key x = k
  · obtain ⟨x, hx, rfl⟩ := hl
    have : z.filter (fun y => key y == key x) = [] := List.filter_eq_nil_iff.2 fun y hy => by
      have := h x hx y hy
      simp
      omega
    rw [this]
    simp
  · have : l.filter (fun y => key y == k) = [] := List.filter_eq_nil_iff.2 fun y hy => by
      simp
      exact fun e => hl ⟨y, hy, e⟩
    rw [this]
    simp
theorem Srt.app {l z : List α} (h : Srt key l) (g : Srt key z) (hc : ∀ x ∈ l, ∀ y ∈ z, key x ≤ key y) : Srt key (l ++ z) := List.pairwise_append.2 ⟨h, g, hc⟩
/-- There is one such list. -/
theorem unique {l y z : List α} (h1 : Fe key l y) (h2 : Fe key l z) (s1 : Srt key y) (s2 : Srt key z) : y = z := by
  have h : Fe key y z := fun k => (h2 k).trans (h1 k).symm
  clear h1 h2
  induction y generalizing z with
  | nil =>
    cases z with
    | nil => rfl
    | cons b z => exact absurd (h.mem.1 (List.mem_cons_self)) (by simp)
  | cons a y ih =>
    cases z with
    | nil => exact absurd (h.mem.2 (List.mem_cons_self)) (by simp)
    | cons b z =>
      have m1 : a ∈ b :: z := h.mem.2 List.mem_cons_self
      have m2 : b ∈ a :: y := h.mem.1 List.mem_cons_self
      obtain ⟨s11, s12⟩ := List.pairwise_cons.1 s1
      obtain ⟨s21, s22⟩ := List.pairwise_cons.1 s2
      have e1 : key b ≤ key a := by
        rcases List.mem_cons.1 m1 with rfl | m
        · exact Int.le_refl _
        · exact s21 a m
      have e2 : key a ≤ key b := by
        rcases List.mem_cons.1 m2 with rfl | m
        · exact Int.le_refl _
        · exact s11 b m
      have e : key a = key b := by omega
      have hk := h (key a)
      rw [List.filter_cons_of_pos (by simp [e]), List.filter_cons_of_pos (by simp)] at hk
      injection hk with hab hk
      subst hab
      rw [ih (z := z) s12 s22 fun k => by
        have hk' := h k
        by_cases c : key b = k
        · rw [List.filter_cons_of_pos (by simp [c]), List.filter_cons_of_pos (by simp [c])] at hk'
          injection hk'
        · rw [List.filter_cons_of_neg (by simp [c]), List.filter_cons_of_neg (by simp [c])] at hk'
          exact hk']

variable [Inhabited α]
/-- The row's segment from a up to b. -/
def seg (d : Array α) (a b : Nat) : List α := (List.range (b - a)).map fun i => d[a + i]!
theorem seg_len (d : Array α) (a b : Nat) : (seg d a b).length = b - a := by simp [seg]
theorem seg_get (d : Array α) (a b i : Nat) (h : i < b - a) : (seg d a b)[i]? = some d[a + i]! := by
  simp [seg, List.getElem?_map, List.getElem?_range h]
theorem seg_ext {d e : Array α} {a b a' b' : Nat} (h : b - a = b' - a') (hp : ∀ i, i < b - a → d[a + i]! = e[a' + i]!) : seg d a b = seg e a' b' := by
  unfold seg
  rw [h] at hp ⊢
  exact List.map_congr_left fun i hi => hp i (by simpa using hi)
theorem seg_app (d : Array α) {a m b : Nat} (h1 : a ≤ m) (h2 : m ≤ b) : seg d a b = seg d a m ++ seg d m b := by
  unfold seg
  rw [show b - a = (m - a) + (b - m) by omega, List.range_add, List.map_append, List.map_map]
  congr 1
  refine List.map_congr_left fun i _ => ?_
  show d[a + (m - a + i)]! = _
  rw [show a + (m - a + i) = m + i by omega]
theorem seg_nil (d : Array α) {a b : Nat} (h : b ≤ a) : seg d a b = [] := by
  unfold seg
  rw [show b - a = 0 by omega]
  rfl
theorem seg_one (d : Array α) (a : Nat) : seg d a (a + 1) = [d[a]!] := by
  unfold seg
  rw [show a + 1 - a = 1 by omega]
  rfl
theorem seg_mem {d : Array α} {a b : Nat} {x : α} : x ∈ seg d a b ↔ ∃ i, a ≤ i ∧ i < b ∧ x = d[i]! := by
  unfold seg
  constructor
  · intro h
    obtain ⟨i, hi, rfl⟩ := List.mem_map.1 h
    have : i < b - a := by simpa using hi
    exact ⟨a + i, by omega, by omega, rfl⟩
  · rintro ⟨i, h1, h2, rfl⟩
    exact List.mem_map.2 ⟨i - a, by simpa using (by omega : i - a < b - a), by rw [show a + (i - a) = i by omega]⟩
theorem seg_all (d : Array α) : seg d 0 d.size = d.toList := by
  refine List.ext_getElem (by simp [seg]) fun i h1 h2 => ?_
  have h3 : i < d.size := by simpa using h2
  simp only [seg, List.getElem_map, List.getElem_range, Nat.zero_add, Array.getElem_toList]
  exact getElem!_pos d i h3

variable (key)
/-- Within a and b the same ones, of every key in the same order; the others stand. -/
def Ch (a b : Nat) (d e : Array α) : Prop := e.size = d.size ∧ (∀ t, t < a ∨ b ≤ t → e[t]! = d[t]!) ∧ Fe key (seg d a b) (seg e a b)
variable {key}
theorem Ch.refl (a b : Nat) (d : Array α) : Ch key a b d d := ⟨rfl, fun _ _ => rfl, Fe.refl _⟩
theorem Ch.trans {a b : Nat} {d e f : Array α} (h : Ch key a b d e) (g : Ch key a b e f) : Ch key a b d f :=
  ⟨g.1.trans h.1, fun t ht => (g.2.1 t ht).trans (h.2.1 t ht), h.2.2.trans g.2.2⟩
theorem Ch.out {a b x y : Nat} {d e : Array α} (h : Ch key a b d e) (hx : y ≤ a ∨ b ≤ x) : seg e x y = seg d x y := seg_ext rfl fun i hi => h.2.1 _ (by omega)
theorem Ch.wide {a b a' b' : Nat} {d e : Array α} (h : Ch key a b d e) (h1 : a' ≤ a) (h2 : b ≤ b') (hab : a ≤ b) : Ch key a' b' d e :=
  ⟨h.1, fun t ht => h.2.1 t (by omega), by
    rw [seg_app d (m := a) h1 (by omega), seg_app e (m := a) h1 (by omega), seg_app d (m := b) hab h2, seg_app e (m := b) hab h2, h.out (x := a') (y := a) (.inl (Nat.le_refl _)), h.out (x := b) (y := b') (.inr (Nat.le_refl _))]
    exact (Fe.refl _).app (h.2.2.app (Fe.refl _))⟩
theorem Srt.get {d : Array α} {a b : Nat} (h : Srt key (seg d a b)) {i j : Nat} (h1 : a ≤ i) (h2 : i ≤ j) (h3 : j < b) : key d[i]! ≤ key d[j]! := by
  by_cases e : i = j
  · subst e; exact Int.le_refl _
  · rw [seg_app d (m := j) (by omega) (by omega)] at h
    exact (List.pairwise_append.1 h).2.2 _ (seg_mem.2 ⟨i, h1, by omega, rfl⟩) _ (seg_mem.2 ⟨j, Nat.le_refl _, h3, rfl⟩)
theorem Srt.part {d : Array α} {a b x y : Nat} (h : Srt key (seg d a b)) (h1 : a ≤ x) (h2 : y ≤ b) : Srt key (seg d x y) := by
  by_cases hxy : x ≤ y
  · rw [seg_app d (m := x) h1 (by omega), seg_app d (m := y) hxy h2] at h
    exact (List.pairwise_append.1 (List.pairwise_append.1 h).2.1).1
  · rw [seg_nil d (by omega)]
    exact List.Pairwise.nil
theorem Srt.one (d : Array α) (a : Nat) : Srt key (seg d a (a + 1)) := by
  rw [seg_one]
  exact List.pairwise_singleton _ _
theorem Srt.join {d : Array α} {a m b : Nat} (h : Srt key (seg d a m)) (g : Srt key (seg d m b)) (hb : a < m → m < b → key d[m - 1]! ≤ key d[m]!) (h1 : a ≤ m) (h2 : m ≤ b) : Srt key (seg d a b) := by
  rw [seg_app d h1 h2]
  refine h.app g fun x hx y hy => ?_
  obtain ⟨i, i1, i2, rfl⟩ := seg_mem.1 hx
  obtain ⟨j, j1, j2, rfl⟩ := seg_mem.1 hy
  have := h.get i1 (by omega : i ≤ m - 1) (by omega)
  have := g.get (Nat.le_refl m) j1 j2
  have := hb (by omega) (by omega)
  omega

/-- The segment from a to b turned: what stood from m on stands first. -/
def Rot (a m b : Nat) (d e : Array α) : Prop := e.size = d.size ∧ ∀ t, e[t]! = if a ≤ t ∧ t < b then (if t + m < a + b then d[t + (m - a)]! else d[t - (b - m)]!) else d[t]!
theorem Rot.triv (a m b : Nat) (d : Array α) (h : m ≤ a ∨ b ≤ m) (h1 : a ≤ m) (h2 : m ≤ b) : Rot a m b d d := ⟨rfl, fun t => by
  by_cases c : a ≤ t ∧ t < b
  · rw [if_pos c]
    by_cases c' : t + m < a + b
    · rw [if_pos c', show t + (m - a) = t by omega]
    · rw [if_neg c', show t - (b - m) = t by omega]
  · rw [if_neg c]⟩
theorem Rot.lo {a m b : Nat} {d e : Array α} (h : Rot a m b d e) (h1 : a ≤ m) (h2 : m ≤ b) : seg e a (a + (b - m)) = seg d m b :=
  seg_ext (by omega) fun i hi => by rw [h.2, if_pos (by omega), if_pos (by omega)]; congr 1; omega
theorem Rot.hi {a m b : Nat} {d e : Array α} (h : Rot a m b d e) (h1 : a ≤ m) (h2 : m ≤ b) : seg e (a + (b - m)) b = seg d a m :=
  seg_ext (by omega) fun i hi => by rw [h.2, if_pos (by omega), if_neg (by omega)]; congr 1; omega
theorem Rot.out {a m b x y : Nat} {d e : Array α} (h : Rot a m b d e) (hx : y ≤ a ∨ b ≤ x) : seg e x y = seg d x y :=
  seg_ext rfl fun i hi => by rw [h.2, if_neg (by omega)]

/-- Turned in the midst, and each half made: the whole is made. -/
theorem sym_final {d d1 d2 d3 : Array α} {a s m e b mid : Nat} (hX : Srt key (seg d a m)) (hY : Srt key (seg d m b)) (h1 : a ≤ s) (h2 : s ≤ m) (h3 : m ≤ e) (h4 : e ≤ b) (hmid : mid = s + (e - m))
    (c1 : a < s → e < b → key d[s - 1]! ≤ key d[e]!) (c2 : s < m → m < e → key d[e - 1]! < key d[s]!)
    (hr : Rot s m e d d1) (g1 : Ch key a mid d1 d2) (g2 : Ch key mid b d2 d3) (s1 : Srt key (seg d2 a mid)) (s2 : Srt key (seg d3 mid b)) : Ch key a b d d3 ∧ Srt key (seg d3 a b) := by
  subst hmid
  have X1 : seg d1 a s = seg d a s := hr.out (.inl (Nat.le_refl _))
  have Y1 : seg d1 s (s + (e - m)) = seg d m e := hr.lo h2 h3
  have X2 : seg d1 (s + (e - m)) e = seg d s m := hr.hi h2 h3
  have Y2 : seg d1 e b = seg d e b := hr.out (.inr (Nat.le_refl _))
  have F1 : Fe key (seg d a s ++ seg d m e) (seg d2 a (s + (e - m))) := by
    rw [← X1, ← Y1, ← seg_app d1 h1 (by omega)]
    exact g1.2.2
  have F2 : Fe key (seg d s m ++ seg d e b) (seg d3 (s + (e - m)) b) := by
    rw [← X2, ← Y2, ← seg_app d1 (by omega) h4, ← g1.out (x := s + (e - m)) (y := b) (.inr (Nat.le_refl _))]
    exact g2.2.2
  have O3 : seg d3 a (s + (e - m)) = seg d2 a (s + (e - m)) := g2.out (.inl (Nat.le_refl _))
  have E3 : seg d3 a b = seg d2 a (s + (e - m)) ++ seg d3 (s + (e - m)) b := by rw [seg_app d3 (m := s + (e - m)) (by omega) (by omega), O3]
  have E0 : seg d a b = (seg d a s ++ (seg d s m ++ seg d m e)) ++ seg d e b := by rw [seg_app d (m := m) (by omega) (by omega), seg_app d (m := s) h1 h2, seg_app d (m := e) h3 h4]; simp
  have yx : ∀ x ∈ seg d s m, ∀ y ∈ seg d m e, key y < key x := fun x hx y hy => by
    obtain ⟨i, i1, i2, rfl⟩ := seg_mem.1 hx
    obtain ⟨j, j1, j2, rfl⟩ := seg_mem.1 hy
    have := hX.get h1 i1 i2
    have := hY.get j1 (by omega : j ≤ e - 1) (by omega)
    have := c2 (by omega) (by omega)
    omega
  refine ⟨⟨g2.1.trans (g1.1.trans hr.1), fun t ht => ?_, ?_⟩, ?_⟩
  · rw [g2.2.1 t (by omega), g1.2.1 t (by omega), hr.2, if_neg (by omega)]
  · rw [E3, E0]
    have T : Fe key ((seg d a s ++ (seg d s m ++ seg d m e)) ++ seg d e b) ((seg d a s ++ seg d m e) ++ (seg d s m ++ seg d e b)) := by
      have := ((Fe.refl (key := key) (seg d a s)).app (Fe.turn yx)).app (Fe.refl (seg d e b))
      simpa [List.append_assoc] using this
    exact T.trans (F1.app F2)
  · rw [E3]
    refine s1.app s2 fun x hx y hy => ?_
    have hx' := F1.mem.1 hx
    have hy' := F2.mem.1 hy
    rcases List.mem_append.1 hx' with hx' | hx' <;> rcases List.mem_append.1 hy' with hy' | hy' <;> obtain ⟨i, i1, i2, rfl⟩ := seg_mem.1 hx' <;> obtain ⟨j, j1, j2, rfl⟩ := seg_mem.1 hy'
    · exact hX.get i1 (by omega) (by omega)
    · have := hX.get i1 (by omega : i ≤ s - 1) (by omega)
      have := hY.get h3 j1 j2
      have := c1 (by omega) (by omega)
      omega
    · have := yx _ hy' _ hx'
      omega
    · exact hY.get i1 (by omega) (by omega)

/-- Two stretches of n, changed for one another. -/
def Swr (a b n : Nat) (d e : Array α) : Prop := e.size = d.size ∧ ∀ t, e[t]! = if a ≤ t ∧ t < a + n then d[t - a + b]! else if b ≤ t ∧ t < b + n then d[t - b + a]! else d[t]!
theorem Swr.zero (a b : Nat) (d : Array α) : Swr a b 0 d d := ⟨rfl, fun t => by rw [if_neg (by omega), if_neg (by omega)]⟩
theorem Swr.step {a b n : Nat} {d e : Array α} (h : Swr a b n d e) (hab : a + n < b) (hb : b + n < d.size) : Swr a b (n + 1) d (swp e (a + n) (b + n)) := ⟨by rw [size_swp]; exact h.1, fun t => by
  by_cases e1 : t = a + n
  · subst e1
    rw [swp_left _ _ _ (by rw [h.1]; omega) (by omega), h.2, if_neg (by omega), if_neg (by omega), if_pos (by omega)]
    congr 1; omega
  · by_cases e2 : t = b + n
    · subst e2
      rw [swp_right _ _ _ (by rw [h.1]; omega), h.2, if_neg (by omega), if_neg (by omega), if_neg (by omega), if_pos (by omega)]
      congr 1; omega
    · rw [swp_other _ _ _ _ e1 e2, h.2]
      by_cases c1 : a ≤ t ∧ t < a + n
      · rw [if_pos c1, if_pos (by omega)]
      · rw [if_neg c1]
        by_cases c2 : b ≤ t ∧ t < b + n
        · rw [if_pos c2, if_neg (by omega), if_pos (by omega)]
        · rw [if_neg c2, if_neg (by omega), if_neg (by omega)]⟩
theorem Rot.great {m i j : Nat} {e e' T : Array α} (h : Rot (m - i) m (m + j) e T) (hi : i ≤ m) (hij : j < i) (hs : Swr (m - i) m j e e') : Rot (m - (i - j)) m (m + j) e' T := ⟨h.1.trans hs.1.symm, fun t => by
  rw [h.2]
  by_cases c : m - i ≤ t ∧ t < m + j
  · rw [if_pos c]
    by_cases c1 : m - (i - j) ≤ t ∧ t < m + j
    · rw [if_pos c1]
      by_cases c2 : t + m < m - (i - j) + (m + j)
      · rw [if_pos c2, hs.2, if_neg (by omega), if_neg (by omega), if_pos (by omega)]
        congr 1; omega
      · rw [if_neg c2, hs.2, if_neg (by omega), if_neg (by omega), if_neg (by omega)]
    · rw [if_neg c1, hs.2, if_pos (by omega), if_pos (by omega)]
      congr 1; omega
  · rw [if_neg c, if_neg (by omega), hs.2, if_neg (by omega), if_neg (by omega)]⟩
theorem Rot.less {m i j : Nat} {e e' T : Array α} (h : Rot (m - i) m (m + j) e T) (hi : i ≤ m) (hij : i < j) (hs : Swr (m - i) (m + j - i) i e e') : Rot (m - i) m (m + (j - i)) e' T := ⟨h.1.trans hs.1.symm, fun t => by
  rw [h.2]
  by_cases c : m - i ≤ t ∧ t < m + j
  · rw [if_pos c]
    by_cases c1 : m - i ≤ t ∧ t < m + (j - i)
    · rw [if_pos c1]
      by_cases c2 : t + m < m - i + (m + (j - i))
      · rw [if_pos c2, if_pos (by omega), hs.2, if_neg (by omega), if_neg (by omega)]
      · rw [if_neg c2, if_pos (by omega), hs.2, if_pos (by omega)]
        congr 1; omega
    · rw [if_neg c1, if_neg (by omega), hs.2, if_neg (by omega), if_pos (by omega)]
      congr 1; omega
  · rw [if_neg c, if_neg (by omega), hs.2, if_neg (by omega), if_neg (by omega)]⟩
theorem Rot.same {m i : Nat} {e e' T : Array α} (h : Rot (m - i) m (m + i) e T) (hi : i ≤ m) (hs : Swr (m - i) m i e e') : e' = T := by
  refine Array.ext (hs.1.trans h.1.symm) fun t h1 h2 => ?_
  have a1 : e'[t]! = T[t]! := by
    rw [h.2, hs.2]
    by_cases c : m - i ≤ t ∧ t < m - i + i
    · rw [if_pos c, if_pos (by omega), if_pos (by omega)]
      congr 1; omega
    · rw [if_neg c]
      by_cases c2 : m ≤ t ∧ t < m + i
      · rw [if_pos c2, if_pos (by omega), if_neg (by omega)]
        congr 1; omega
      · rw [if_neg c2, if_neg (by omega)]
  rwa [getElem!_pos e' t h1, getElem!_pos T t h2] at a1
/-- There is such a row. -/
theorem rot_ex (a m b : Nat) (d : Array α) (hb : b ≤ d.size) : ∃ T, Rot a m b d T := by
  refine ⟨Array.ofFn (n := d.size) fun t => if a ≤ t.1 ∧ t.1 < b then (if t.1 + m < a + b then d[t.1 + (m - a)]! else d[t.1 - (b - m)]!) else d[t.1]!, by simp, fun t => ?_⟩
  by_cases h : t < d.size
  · rw [getElem!_pos _ t (by simpa using h), getElem!_pos d t h]
    simp
  · rw [getElem!_neg _ t (by simpa using h), if_neg (by omega), getElem!_neg d t h]
/-- One place further down, one further up. -/
theorem Rot.up {a k : Nat} {d e : Array α} (h : Rot a (a + 1) (k + 1) d e) (hak : a ≤ k) (hk : k + 1 < d.size) : Rot a (a + 1) (k + 2) d (swp e k (k + 1)) := ⟨by rw [size_swp]; exact h.1, fun t => by
  by_cases e1 : t = k
  · subst e1
    rw [swp_left _ _ _ (by rw [h.1]; omega) (by omega), h.2, if_neg (by omega), if_pos (by omega), if_pos (by omega)]
    congr 1; omega
  · by_cases e2 : t = k + 1
    · subst e2
      rw [swp_right _ _ _ (by rw [h.1]; omega), h.2, if_pos (by omega), if_neg (by omega), if_pos (by omega), if_neg (by omega)]
      congr 1; omega
    · rw [swp_other _ _ _ _ e1 e2, h.2]
      by_cases c : a ≤ t ∧ t < k + 1
      · rw [if_pos c, if_pos (by omega), if_pos (by omega), if_pos (by omega)]
      · rw [if_neg c, if_neg (by omega)]⟩
theorem Rot.down {k m : Nat} {d e : Array α} (h : Rot (k + 1) m (m + 1) d e) (hkm : k + 1 ≤ m) (hm : m < d.size) : Rot k m (m + 1) d (swp e (k + 1) k) := ⟨by rw [size_swp]; exact h.1, fun t => by
  by_cases e1 : t = k + 1
  · subst e1
    rw [swp_left _ _ _ (by rw [h.1]; omega) (by omega), h.2, if_neg (by omega), if_pos (by omega), if_neg (by omega)]
    congr 1; omega
  · by_cases e2 : t = k
    · subst e2
      rw [swp_right _ _ _ (by rw [h.1]; omega), h.2, if_pos (by omega), if_pos (by omega), if_pos (by omega), if_pos (by omega)]
      congr 1; omega
    · rw [swp_other _ _ _ _ e1 e2, h.2]
      by_cases c : k + 1 ≤ t ∧ t < m + 1
      · rw [if_pos c, if_neg (by omega), if_pos (by omega), if_neg (by omega)]
      · rw [if_neg c, if_neg (by omega)]⟩
/-- One more, put where it belongs. -/
theorem ins_final {d e : Array α} {a j m : Nat} (hX : Srt key (seg d a m)) (h1 : a ≤ j) (h2 : j ≤ m) (hr : Rot j m (m + 1) d e) (c1 : a < j → key d[j - 1]! ≤ key d[m]!) (c2 : j < m → key d[m]! < key d[j]!) : Ch key a (m + 1) d e ∧ Srt key (seg e a (m + 1)) := by
  refine sym_final (mid := j + 1) (d1 := e) (d2 := e) (d3 := e) hX (Srt.one d m) h1 h2 (by omega) (Nat.le_refl _) (by omega) (fun _ h => absurd h (by omega)) (fun h _ => by rw [Nat.add_sub_cancel]; exact c2 h) hr (Ch.refl _ _ _) (Ch.refl _ _ _) ?_ ?_
  · refine Srt.join (m := j) (by rw [hr.out (.inl (Nat.le_refl _))]; exact hX.part (Nat.le_refl _) h2) (Srt.one e j) (fun h _ => ?_) h1 (by omega)
    rw [hr.2, if_neg (by omega), hr.2, if_pos (by omega), if_pos (by omega), show j + (m - j) = m by omega]
    exact c1 h
  · rw [show j + 1 = j + (m + 1 - m) by omega, hr.hi h2 (by omega)]
    exact hX.part h1 (Nat.le_refl _)
theorem insl_final {d e : Array α} {a i b : Nat} (hY : Srt key (seg d (a + 1) b)) (h1 : a + 1 ≤ i) (h2 : i ≤ b) (hr : Rot a (a + 1) i d e) (c1 : i < b → key d[a]! ≤ key d[i]!) (c2 : a + 1 < i → key d[i - 1]! < key d[a]!) : Ch key a b d e ∧ Srt key (seg e a b) := by
  refine sym_final (s := a) (m := a + 1) (e := i) (mid := i - 1) (d1 := e) (d2 := e) (d3 := e) (Srt.one d a) hY (Nat.le_refl _) (by omega) h1 h2 (by omega) (fun h _ => absurd h (by omega)) (fun _ h => c2 h) hr (Ch.refl _ _ _) (Ch.refl _ _ _) ?_ ?_
  · have := hr.lo (by omega) h1
    rw [show a + (i - (a + 1)) = i - 1 by omega] at this
    rw [this]
    exact hY.part (Nat.le_refl _) h2
  · refine Srt.join (m := i) (by have := Srt.one (key := key) e (i - 1); rwa [show i - 1 + 1 = i by omega] at this) (by rw [hr.out (.inr (Nat.le_refl _))]; exact hY.part h1 (Nat.le_refl _)) (fun _ h => ?_) (by omega) h2
    rw [hr.2, if_pos (by omega), if_neg (by omega), hr.2, if_neg (by omega), show i - 1 - (i - (a + 1)) = a by omega]
    exact c1 h
theorem mul_step {t u bs : Nat} (h : t < u) : t * bs + bs ≤ u * bs := by
  have := Nat.mul_le_mul_right bs h
  rw [Nat.succ_mul] at this
  exact this
variable (key)
/-- The first k stretches of bs (the last one cut at n) are each in order. -/
def Blk (bs n k : Nat) (d : Array α) : Prop := ∀ t, t < k → t * bs < n → Srt key (seg d (t * bs) (min (t * bs + bs) n))
/-- The stretches of bs from number k on are each in order. -/
def Bls (bs n k : Nat) (d : Array α) : Prop := ∀ t, k ≤ t → t * bs < n → Srt key (seg d (t * bs) (min (t * bs + bs) n))
variable {key}
theorem Blk.zero (bs n : Nat) (d : Array α) : Blk key bs n 0 d := fun _ h => absurd h (by omega)
theorem Blk.next {bs n u a hi : Nat} {d e : Array α} (h : Blk key bs n u d) (ha : a = u * bs) (g : Ch key a hi d e) (hh : hi = min (a + bs) n) (s : Srt key (seg e a hi)) : Blk key bs n (u + 1) e := fun t ht htn => by
  subst ha hh
  by_cases c : t = u
  · subst c
    exact s
  · have := mul_step (bs := bs) (show t < u by omega)
    rw [g.out (.inl (by omega))]
    exact h t (by omega) htn
theorem Blk.all {bs n u : Nat} {d : Array α} (h : Blk key bs n u d) (hn : n ≤ u * bs) : Bls key bs n 0 d := fun t _ htn => h t (by
  by_cases c : t < u
  · exact c
  · have := Nat.mul_le_mul_right bs (Nat.not_lt.1 c)
    omega) htn
theorem Bls.next {bs n u a : Nat} {d e : Array α} (h : Bls key bs n (2 * u) d) (ha : a = u * (2 * bs)) (g : Ch key a (min (a + 2 * bs) n) d e) : Bls key bs n (2 * (u + 1)) e := fun t ht htn => by
  have e1 : u * (2 * bs) = 2 * u * bs := by rw [Nat.mul_comm 2 u, Nat.mul_assoc]
  have h1 := Nat.mul_le_mul_right bs ht
  rw [show 2 * (u + 1) = 2 * u + 2 by omega, Nat.add_mul] at h1
  rw [g.out (.inr (by omega))]
  exact h t (by omega) htn
/-- The two stretches that are to be merged. -/
theorem Bls.two {bs n u a : Nat} {d : Array α} (h : Bls key bs n (2 * u) d) (ha : a = u * (2 * bs)) : (a < n → Srt key (seg d a (min (a + bs) n))) ∧ (a + bs < n → Srt key (seg d (a + bs) (min (a + 2 * bs) n))) := by
  have e1 : u * (2 * bs) = 2 * u * bs := by rw [Nat.mul_comm 2 u, Nat.mul_assoc]
  have e2 : (2 * u + 1) * bs = 2 * u * bs + bs := Nat.succ_mul _ _
  refine ⟨fun hn => ?_, fun hn => ?_⟩
  · have := h (2 * u) (Nat.le_refl _) (by omega)
    rwa [← e1, ← ha] at this
  · have := h (2 * u + 1) (by omega) (by omega)
    rw [e2, ← e1, ← ha, show a + bs + bs = a + 2 * bs by omega] at this
    exact this
theorem Bls.done {bs n : Nat} {d : Array α} (h : Bls key bs n 0 d) (hn : n ≤ bs) : Srt key (seg d 0 n) := by
  by_cases c : n = 0
  · subst c
    rw [seg_nil d (Nat.le_refl _)]
    exact List.Pairwise.nil
  · have := h 0 (Nat.le_refl _) (by omega)
    rw [Nat.zero_mul, Nat.zero_add, Nat.min_eq_right hn] at this
    exact this
end Go.Proofs.YtjffemeeomogaaaDoor.St
