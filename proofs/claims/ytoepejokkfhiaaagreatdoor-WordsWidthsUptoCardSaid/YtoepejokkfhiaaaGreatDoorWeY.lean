/- Columns of the rows that the law on widths builds; blanks at an end. -/
import Derived.Test.YtoepejokkfhiaaaGreatDoorWeV
import Derived.Test.YtoepejokkfhiaaaGreatDoorWdV
namespace Go.Proofs.YtoepejokkfhiaaaGreatDoor.Wd
open Go.ChangeShapes Go.WideShapes Go.ChangeAt Go.RowKit Own Bld Go.Lib Nums

theorem trim_snoc (l : List UInt8) (c : UInt8) : trimRightB (l ++ [c]) c = trimRightB l c := by
  unfold trimRightB
  simp
theorem trim_stay (l : List UInt8) (d c : UInt8) (h : d ≠ c) : trimRightB (l ++ [d]) c = l ++ [d] := by
  unfold trimRightB
  simp [h]
theorem last_split (F : ByteArray) (h : 0 < F.size) : F.data.toList = F.data.toList.take (F.size - 1) ++ [F[F.size - 1]'(by omega)] := by
  have hl : F.data.toList.length = F.size := rfl
  have h2 := List.take_succ_eq_append_getElem (l := F.data.toList) (i := F.size - 1) (by omega)
  have h3 : F.data.toList.take (F.size - 1 + 1) = F.data.toList := List.take_of_length_le (by omega)
  exact h3.symm.trans h2
theorem trim_cut (F : ByteArray) (h : 0 < F.size) (h2 : F[F.size - 1]'(by omega) = 32) : trimRightB (F.extract 0 (F.size - 1)).data.toList 32 = trimRightB F.data.toList 32 := by
  rw [ext_take, str_list, last_split F h, h2, trim_snoc]
  congr 1
  have hl : F.data.toList.length = F.size := rfl
  rw [List.take_left' (by rw [List.length_take]; omega)]
theorem trim_end (F : ByteArray) (h : F.size = 0 ∨ ∃ h : 0 < F.size, F[F.size - 1]'(by omega) ≠ 32) : trimRightB F.data.toList 32 = F.data.toList := by
  rcases h with h | ⟨h, h2⟩
  · have hl : F.data.toList = [] := List.eq_nil_of_length_eq_zero h
    rw [hl]
    rfl
  · have e := last_split F h
    rw [e]
    exact trim_stay _ _ _ h2

def rows1 (w : World) (s t : ByteArray) (n1 n2 : Nat) : World := (((w.alloc (.cells #[.string s, .string t] 9)).alloc (.cells #[.string s] 9)).alloc
  (.cells #[.slice (some ⟨w.heap.size, 0, none⟩) 2 2, .slice (some ⟨w.heap.size + 1, 0, none⟩) 1 1, .slice none 0 0] 33)).alloc (.cells #[.int .i64 n1, .int .i64 n2] 3)
theorem rows1_below (w : World) (s t : ByteArray) (n1 n2 : Nat) : Below w.heap.size w (rows1 w s t n1 n2) :=
  ((((Below.refl _ _).alloc (Nat.le_refl _) _).alloc (by simp) _).alloc (by simp; omega) _).alloc (by simp; omega) _
theorem rows1_a (w : World) (s t : ByteArray) (n1 n2 : Nat) : Src (rows1 w s t n1 n2) (some ⟨w.heap.size, 0, none⟩) 2 2 (strs [s.data.toList, t.data.toList]) :=
  (src_cells w #[.string s, .string t] 9).below ((((Below.refl _ _).alloc (Nat.le_refl _) _).alloc (by simp) _).alloc (by simp) _)
theorem rows1_b (w : World) (s t : ByteArray) (n1 n2 : Nat) : Src (rows1 w s t n1 n2) (some ⟨w.heap.size + 1, 0, none⟩) 1 1 (strs [s.data.toList]) := by
  have h := src_cells (w.alloc (.cells #[.string s, .string t] 9)) #[.string s] 9
  have e : (w.alloc (.cells #[.string s, .string t] 9)).heap.size = w.heap.size + 1 := by simp
  rw [e] at h
  exact h.below (((Below.refl _ _).alloc (Nat.le_refl _) _).alloc (by simp) _)
theorem rows1_c (w : World) (s t : ByteArray) (n1 n2 : Nat) : Src (rows1 w s t n1 n2) (some ⟨w.heap.size + 1 + 1, 0, none⟩) 3 3 (slcs [(some ⟨w.heap.size, 0, none⟩, 2, 2), (some ⟨w.heap.size + 1, 0, none⟩, 1, 1), (none, 0, 0)]) := by
  have h := src_cells ((w.alloc (.cells #[.string s, .string t] 9)).alloc (.cells #[.string s] 9)) #[.slice (some ⟨w.heap.size, 0, none⟩) 2 2, .slice (some ⟨w.heap.size + 1, 0, none⟩) 1 1, .slice none 0 0] 33
  have e : ((w.alloc (.cells #[.string s, .string t] 9)).alloc (.cells #[.string s] 9)).heap.size = w.heap.size + 1 + 1 := by simp
  rw [e] at h
  exact h.below ((Below.refl _ _).alloc (Nat.le_refl _) _)
theorem rows1_d (w : World) (s t : ByteArray) (n1 n2 : Nat) : Src (rows1 w s t n1 n2) (some ⟨w.heap.size + 1 + 1 + 1, 0, none⟩) 2 2 ([n1, n2].map fun (x : Nat) => Value.int .i64 (x : Int)) := by
  have h := src_cells (((w.alloc (.cells #[.string s, .string t] 9)).alloc (.cells #[.string s] 9)).alloc (.cells #[.slice (some ⟨w.heap.size, 0, none⟩) 2 2, .slice (some ⟨w.heap.size + 1, 0, none⟩) 1 1, .slice none 0 0] 33)) #[.int .i64 n1, .int .i64 n2] 3
  have e : (((w.alloc (.cells #[.string s, .string t] 9)).alloc (.cells #[.string s] 9)).alloc (.cells #[.slice (some ⟨w.heap.size, 0, none⟩) 2 2, .slice (some ⟨w.heap.size + 1, 0, none⟩) 1 1, .slice none 0 0] 33)).heap.size = w.heap.size + 1 + 1 + 1 := by simp
  rw [e] at h
  exact h
theorem line_two (s t : List UInt8) (n1 n2 : Nat) : lineA [s, t] [n1, n2] = trimRightB (fitW s n1 ++ [32] ++ fitW t n2) 32 := by
  unfold lineA
  show trimRightB (accA [s, t] [n1, n2] 2) 32 = _
  have e1 : accA [s, t] [n1, n2] 1 = fitW s n1 := by
    show (if 0 < 0 then _ else accA [s, t] [n1, n2] 0) ++ fitW s n1 = _
    rw [if_neg (by omega)]
    rfl
  have e2 : accA [s, t] [n1, n2] 2 = accA [s, t] [n1, n2] 1 ++ [32] ++ fitW t n2 := by
    show (if 0 < 1 then accA [s, t] [n1, n2] 1 ++ [32] else accA [s, t] [n1, n2] 1) ++ fitW t n2 = _
    rw [if_pos (by omega)]
  rw [e2, e1]
theorem cWide (w : World) (s t : ByteArray) (n1 n2 : Nat) (hs : s.size ≤ 16777216) (ht : t.size ≤ 16777216) (h1 : 1 ≤ n1 ∧ n1 ≤ 4096) (h2 : 1 ≤ n2 ∧ n2 ≤ 4096) (h : U8 w) :
    Calls Tryz.prog 23 #[.slice (some ⟨w.heap.size + 1 + 1, 0, none⟩) 3 3, .slice (some ⟨w.heap.size + 1 + 1 + 1, 0, none⟩) 2 2] (rows1 w s t n1 n2)
    fun e w' => ∃ B, e = .returned (.tuple #[.slice (some ⟨B, 0, none⟩) 3 3, .int .i64 0]) ∧ w'.cell? ⟨B, 0, none⟩ = some (.string (str (trimRightB (fitW s.data.toList n1 ++ [32] ++ fitW t.data.toList n2) 32))) ∧ w'.cell? ⟨B, 2, none⟩ = some (.string ⟨#[]⟩) ∧ Below w.heap.size w w' := by
  refine (columns_all _ _ 3 2 3 2 [(some ⟨w.heap.size, 0, none⟩, 2, 2), (some ⟨w.heap.size + 1, 0, none⟩, 1, 1), (none, 0, 0)] [[s.data.toList, t.data.toList], [s.data.toList], []] [n1, n2] _ rfl rfl (by omega) (by omega) ?_ ?_ (rows1_c w s t n1 n2) (rows1_d w s t n1 n2) (h.below (rows1_below w s t n1 n2))).mono ?_
  · intro k hk
    match k, hk with
    | 0, _ => exact h1
    | 1, _ => exact h2
  · intro k hk
    match k, hk with
    | 0, _ =>
      refine ⟨rfl, Nat.le_refl _, rows1_a w s t n1 n2, fun k hk => ?_⟩
      match k, hk with
      | 0, _ => exact hs
      | 1, _ => exact ht
    | 1, _ =>
      refine ⟨rfl, (by decide : 1 ≤ 2), rows1_b w s t n1 n2, fun k hk => ?_⟩
      match k, hk with
      | 0, _ => exact hs
    | 2, _ => exact ⟨rfl, (by decide : 0 ≤ 2), .inl ⟨rfl, rfl, rfl, rfl⟩, fun k hk => absurd hk (by simp)⟩
  · rintro e w' ⟨rfl, hr, hb⟩
    refine ⟨_, rfl, ?_, ?_, (rows1_below w s t n1 n2).trans (hb.mono (rows1_below w s t n1 n2).size)⟩
    · rw [hr.cell (i := 0) (by omega), ← line_two]
      rfl
    · rw [hr.cell (i := 2) (by omega)]
      rfl
end Go.Proofs.YtoepejokkfhiaaaGreatDoor.Wd
