/- The document's own word, where it stands bare. -/
import Derived.Test.YtaoekpedjgnnjaaDoorRfD
namespace Go.Proofs.YtaoekpedjgnnjaaDoor.Wd
open Go.ChangeShapes Go.WideShapes Go.ChangeAt Go.RowKit Own Bld Go.Lib Nums

/-- A bare word: what stands before the first blank. -/
def bareW (l : List UInt8) : List UInt8 := l.takeWhile fun c => c != 32
theorem bare_at (l : List UInt8) (k : Nat) (h : ∀ c ∈ l.take k, c ≠ 32) (h2 : l.drop k = [] ∨ ∃ t, l.drop k = 32 :: t) : bareW l = l.take k := by
  have e := List.take_append_drop k l
  unfold bareW
  conv => lhs; rw [← e]
  rw [List.takeWhile_append_of_pos (fun a ha => by simpa using h a ha)]
  rcases h2 with h2 | ⟨t, h2⟩
  · rw [h2]; simp
  · rw [h2]; simp
theorem bare_end (s : ByteArray) (h : ∀ c ∈ s.data.toList.take s.size, c ≠ 32) : bareW s.data.toList = s.data.toList.take s.size := bare_at _ _ h (.inl (List.drop_of_length_le (Nat.le_refl s.data.toList.length)))
theorem bare_blank (s : ByteArray) (k : Nat) (hk : k < s.size) (h : ∀ c ∈ s.data.toList.take k, c ≠ 32) (h2 : s[k] = 32) : bareW s.data.toList = s.data.toList.take k :=
  bare_at _ _ h (.inr ⟨s.data.toList.drop (k + 1), by rw [List.drop_eq_getElem_cons (show k < s.data.toList.length from hk)]; congr 1⟩)
theorem bare_step (s : ByteArray) (k : Nat) (hk : k < s.size) (h : ∀ c ∈ s.data.toList.take k, c ≠ 32) (h2 : s[k] ≠ 32) : ∀ c ∈ s.data.toList.take (k + 1), c ≠ 32 := by
  rw [take_last s k hk]
  intro c hc
  rcases List.mem_append.1 hc with hc | hc
  · exact h c hc
  · rw [List.mem_singleton.1 hc]
    exact h2
theorem bare_ret (s : ByteArray) (k : Nat) (hk : k ≤ s.size) (h : bareW s.data.toList = s.data.toList.take k) : Ending.returned (.tuple #[.string (s.extract 0 k), .int .i64 (k : Int)]) = .returned (.tuple #[.string (str (bareW s.data.toList)), .int .i64 ((bareW s.data.toList).length : Int)]) := by
  have hl : s.data.toList.length = s.size := rfl
  rw [h, ← ext_take, List.length_take, hl, Nat.min_eq_left hk]

theorem bare_ret' (s : ByteArray) (h : bareW s.data.toList = s.data.toList.take s.size) : Ending.returned (.tuple #[.string s, .int .i64 (s.size : Int)]) = .returned (.tuple #[.string (str (bareW s.data.toList)), .int .i64 ((bareW s.data.toList).length : Int)]) := by
  have e : s.extract 0 s.size = s := bytes_ext (by rw [ext_take, str_list]; exact List.take_of_length_le (Nat.le_refl s.data.toList.length))
  have h2 := bare_ret s s.size (Nat.le_refl _) h
  rw [e] at h2
  exact h2
theorem bare_ret0 (s : ByteArray) (h : s.size = 0) : Ending.returned (.tuple #[.string ByteArray.empty, .int .i64 0]) = .returned (.tuple #[.string (str (bareW s.data.toList)), .int .i64 ((bareW s.data.toList).length : Int)]) := by
  have hl : s.data.toList = [] := List.eq_nil_of_length_eq_zero h
  rw [hl]
  rfl
set_option maxRecDepth 100000 in
set_option maxHeartbeats 4000000 in
theorem word_bare (s : ByteArray) (w : World) (hs : s.size ≤ 268435456) (h : ∀ h : 0 < s.size, s[0] ≠ 34) :
    Calls Tryd.prog 27 #[.string s] w fun e w' => e = .returned (.tuple #[.string (str (bareW s.data.toList)), .int .i64 ((bareW s.data.toList).length : Int)]) ∧ Below w.heap.size w w' := by
  have hz : s.data.toList.length = s.size := rfl
  by_cases h0 : s.size = 0
  · have hl : s.data.toList = [] := List.eq_nil_of_length_eq_zero h0
    have hne : (s.toList == []) = true := by rw [Lib.toList_data, hl]; rfl
    have hne2 : s.toList.isEmpty = true := by rw [Lib.toList_data, hl]; rfl
    clear hl h
    clear hz
    go_enter Tryd.func27, Tryd.ntmps27
    go_wp2_with fail
    go_loop [4] (fun i => ∃ k : Nat, k ≤ s.size ∧ i = .int .i64 k ∧ Hid (∀ c ∈ s.data.toList.take k, c ≠ 32)) (fun i => s.size - (RowKit.intOf i).toNat)
    case atStart => exact ⟨0, by omega, rfl, Lib.hid (by simp)⟩
    case round =>
      obtain ⟨k, hk, rfl, _⟩ := hrel
      obtain rfl : k = s.size := by omega
      go_wp2_with fail
      go_ret2
      exact ⟨bare_ret0 s h0, Below.refl _ _⟩
  · have hp : 0 < s.size := by omega
    have h34 := h hp
    have h256 : s[0].toNat < 256 := s[0].toNat_lt
    have tq : ((s[0].toNat : Int) != 34) = true := bne_iff_ne.2 fun e => h34 (UInt8.toNat_inj.1 (by show s[0].toNat = 34; omega))
    have hl : s.data.toList ≠ [] := fun e => by rw [e] at hz; simp at hz; omega
    have hne : (s.toList == []) = false := by rw [Lib.toList_data, beq_eq_false_iff_ne]; exact hl
    have hne2 : s.toList.isEmpty = false := by rw [Lib.toList_data, List.isEmpty_eq_false_iff]; exact hl
    clear h34 h hl
    clear hz
    go_enter Tryd.func27, Tryd.ntmps27
    go_wp2_with fail
    go_loop [4] (fun i => ∃ k : Nat, k ≤ s.size ∧ i = .int .i64 k ∧ Hid (∀ c ∈ s.data.toList.take k, c ≠ 32)) (fun i => s.size - (RowKit.intOf i).toNat)
    case atStart => exact ⟨0, by omega, rfl, Lib.hid (by simp)⟩
    case round =>
      obtain ⟨k, hk, rfl, HA⟩ := hrel
      by_cases hlt : k < s.size
      · have hc256 : s[k].toNat < 256 := s[k].toNat_lt
        by_cases h32 : s[k] = 32
        · have HV := Lib.hid (bare_blank s k hlt HA.out h32)
          have t1 : ((s[k].toNat : Int) != 32) = false := by rw [h32]; rfl
          clear h32
          go_wp2_with fail
          go_ret2
          exact ⟨bare_ret s k hk HV.out, Below.refl _ _⟩
        · have HN := Lib.hid (bare_step s k hlt HA.out h32)
          have t1 : ((s[k].toNat : Int) != 32) = true := bne_iff_ne.2 fun e => h32 (UInt8.toNat_inj.1 (by show s[k].toNat = 32; omega))
          clear h32
          go_wp2_with fail
          go_round
          case rel => exact ⟨k + 1, by omega, by go_num, HN⟩
          case measure => simp [RowKit.intOf]; omega
      · obtain rfl : k = s.size := by omega
        have HV := Lib.hid (bare_end s HA.out)
        go_wp2_with fail
        go_ret2
        exact ⟨bare_ret' s HV.out, Below.refl _ _⟩
end Go.Proofs.YtaoekpedjgnnjaaDoor.Wd
