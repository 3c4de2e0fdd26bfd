/- Plain facts for the statement on names: which bytes may stand in a name, and when a text is one. -/
import Derived.Lib.Strings
import Derived.Lib.Bytealg
import Derived.Lib.LastIndexByte
namespace Go.Proofs.Ytnnaoneegeenkaa.wordsNames

/-- May this byte stand in a name? -/
def nb (c : Int) : Bool :=
  (decide (97 ≤ c) && decide (c ≤ 122)) || (decide (48 ≤ c) && decide (c ≤ 57)) ||
    (c == 44 || c == 46 || c == 95 || c == 43 || c == 45 || c == 64 || c == 35 || c == 63)

theorem nb_ix0 : ∀ k : Fin 256, ((decide (97 ≤ (k.val : Int)) && decide ((k.val : Int) ≤ 122)) || (decide (48 ≤ (k.val : Int)) && decide ((k.val : Int) ≤ 57))) = false →
    decide (0 ≤ Lib.indexByte [44, 46, 95, 43, 45, 64, 35, 63] k.val.toUInt8) = nb k.val := by decide +kernel

theorem nb_ix (c : Int) (h0 : 0 ≤ c) (h1 : c ≤ 255) (h : ((decide (97 ≤ c) && decide (c ≤ 122)) || (decide (48 ≤ c) && decide (c ≤ 57))) = false) :
    decide (0 ≤ Lib.indexByte [44, 46, 95, 43, 45, 64, 35, 63] c.toNat.toUInt8) = nb c := by
  have := nb_ix0 ⟨c.toNat, by omega⟩
  have e : ((c.toNat : Nat) : Int) = c := by omega
  simp only [e] at this
  exact this h

theorem nb_yes (c : Int) (h : (97 ≤ c ∧ c ≤ 122) ∨ (48 ≤ c ∧ c ≤ 57) ∨ c = 44 ∨ c = 46 ∨ c = 95 ∨ c = 43 ∨ c = 45 ∨ c = 64 ∨ c = 35 ∨ c = 63) : nb c = true := by
  unfold nb; simp; omega
theorem nb_no (c : Int) (h : ¬ ((97 ≤ c ∧ c ≤ 122) ∨ (48 ≤ c ∧ c ≤ 57) ∨ c = 44 ∨ c = 46 ∨ c = 95 ∨ c = 43 ∨ c = 45 ∨ c = 64 ∨ c = 35 ∨ c = 63)) : nb c = false := by
  cases e : nb c
  · rfl
  · exfalso; apply h; unfold nb at e; simp at e; omega

/-- Is this text a name? -/
def isName (l : List UInt8) : Bool := decide (1 ≤ l.length) && decide (l.length ≤ 31) && l.all fun c => nb (c.toNat : Int)

/-- What Name tells of a text: OK, or ErrName. -/
def nameE (l : List UInt8) : Int := if isName l then 0 else 10
theorem nameE_no {l : List UInt8} (h : isName l = false) : nameE l = 10 := by unfold nameE; rw [h]; rfl
theorem nameE_yes {l : List UInt8} (h : isName l = true) : nameE l = 0 := by unfold nameE; rw [h]; rfl

theorem all_snoc (s : ByteArray) (k : Nat) (h : k < s.size) :
    (s.data.toList.take (k + 1)).all (fun c => nb (c.toNat : Int)) = ((s.data.toList.take k).all (fun c => nb (c.toNat : Int)) && nb (s[k].toNat : Int)) := by
  rw [List.take_succ_eq_append_getElem (by simpa using h)]
  simp
  rfl

theorem name_of (s : ByteArray) (h1 : 1 ≤ s.size) (h2 : s.size ≤ 31) (k : Nat) (hk : ¬ k < s.size) (ha : (s.data.toList.take k).all (fun c => nb (c.toNat : Int)) = true) :
    isName s.data.toList = true := by
  have hl : s.data.toList.length = s.size := (Lib.size_eq s).symm
  rw [List.take_of_length_le (by omega)] at ha
  unfold isName
  rw [ha, hl]
  simp [h1, h2]

theorem not_name (s : ByteArray) (k : Nat) (h : k < s.size) (hb : nb (s[k].toNat : Int) = false) : isName s.data.toList = false := by
  have hl : s.data.toList.length = s.size := (Lib.size_eq s).symm
  unfold isName
  rw [Bool.and_eq_false_iff]
  right
  rw [List.all_eq_false]
  refine ⟨s[k], ?_, by simp [hb]⟩
  rw [List.mem_iff_getElem]
  exact ⟨k, by omega, rfl⟩

theorem not_name_len (s : ByteArray) (h : s.size < 1 ∨ 31 < s.size) : isName s.data.toList = false := by
  have hl : s.data.toList.length = s.size := (Lib.size_eq s).symm
  unfold isName
  rw [hl]
  rcases h with h | h
  · simp; omega
  · simp; omega
end Go.Proofs.Ytnnaoneegeenkaa.wordsNames
