/- Cards: plain facts, and cards in memory. -/
import Derived.Test.YtnnaoneegeenkaaChecked
import Derived.Test.YtnnaoneegeenkaaRo
import Derived.Test.YtnnaoneegeenkaaNm1
namespace Go.Proofs.Ytnnaoneegeenkaa.Kc
open Go.ChangeShapes Go.WideShapes Go.ChangeAt Go.RowKit Own Ro wordsNames

def strs (l : List (List UInt8)) : List Value := l.map fun s => .string (str s)
theorem strs_len (l : List (List UInt8)) : (strs l).length = l.length := by simp [strs]
theorem strs_at (l : List (List UInt8)) (i : Nat) (h : i < l.length) : (strs l)[i]? = some (.string (str (l.getD i []))) := by
  unfold strs
  rw [List.getElem?_map, some_at l [] i h]
  rfl
theorem one_strs (l : List (List UInt8)) : ∀ u ∈ strs l, u.oneCell' = true := by
  intro u hu
  obtain ⟨x, _, rfl⟩ := List.mem_map.1 hu
  rfl
theorem strs_set (l : List (List UInt8)) (j : Nat) (v : List UInt8) : (strs l).set j (.string (str v)) = strs (l.set j v) := by unfold strs; rw [List.map_set]
structure Cd where
  name : List UInt8
  fam : List UInt8
  level : Int
  compat : List (List UInt8)
  score : Int
  quirk : List UInt8
  entry : Int
def cd0 : Cd := ⟨[], [], 0, [], 0, [], 0⟩
def cdHd (a : Cd) : List Value := [.string (str a.name), .string (str a.fam), .int .u8 a.level, .slice none 0 0, .int .i8 a.score, .string (str a.quirk), .int .i16 a.entry]
def KC : Kd Cd where
  k := 7
  p := 3
  q := 1
  E := 37
  F := 9
  hd := cdHd
  inn := fun a => strs a.compat
  len := fun a => a.compat.length
  z := cd0
  hk := fun _ => rfl
  hq := fun a => by rw [strs_len]; omega
  hp := by decide
  ne := by decide
  one := by intro a u hu; simp [cdHd] at hu; rcases hu with rfl | rfl | rfl | rfl | rfl | rfl | rfl <;> rfl
  oneI := fun a u hu => one_strs a.compat u hu
def cells7 (a : Cd) (r : Sl) : Array Value := #[.string (str a.name), .string (str a.fam), .int .u8 a.level, slV r, .int .i8 a.score, .string (str a.quirk), .int .i16 a.entry]
def cardV (a : Cd) (r : Sl) : Value := .agg (cells7 a r)
def okText (s : List UInt8) : Prop := 1 ≤ s.length ∧ s.length ≤ 63 ∧ (0 : UInt8) ∉ s
def TextsOk (l : List (List UInt8)) : Prop := 1 ≤ l.length ∧ l.length ≤ 8 ∧ ∀ i, i < l.length → okText (l.getD i []) ∧ ∀ k, k < i → l.getD k [] ≠ l.getD i []
def CardOk (a : Cd) : Prop := isName a.name = true ∧ isName a.fam = true ∧ a.level ≤ 4 ∧ TextsOk a.compat ∧ (-100 ≤ a.score ∧ a.score ≤ 100) ∧ (a.quirk = [] ∨ isName a.quirk = true) ∧ -1 ≤ a.entry ∧ a.entry ≤ 47
def CardAt (L : List Cd) (i : Nat) : Prop := i < 64 ∧ CardOk (L.getD i cd0) ∧ ∀ k, k < i → (L.getD k cd0).name ≠ (L.getD i cd0).name
def ChkC (L : List Cd) (i : Nat) (e : Int) : Prop := (i < L.length ∧ ¬ CardAt L i ∧ (∀ k, k < i → CardAt L k) ∧ e = 70) ∨ ((∀ k, k < L.length → CardAt L k) ∧ i = 0 ∧ e = 0)
theorem chkC_one {L : List Cd} {i j : Nat} {e f : Int} (h : ChkC L i e) (h' : ChkC L j f) : i = j ∧ e = f := by
  rcases h with ⟨h1, h2, h3, rfl⟩ | ⟨h1, rfl, rfl⟩
  · rcases h' with ⟨g1, g2, g3, rfl⟩ | ⟨g1, rfl, rfl⟩
    · refine ⟨?_, rfl⟩
      rcases Nat.lt_trichotomy i j with h | h | h
      · exact absurd (g3 i h) h2
      · exact h
      · exact absurd (h3 j h) g2
    · exact absurd (g1 i h1) h2
  · rcases h' with ⟨g1, g2, g3, rfl⟩ | ⟨g1, rfl, rfl⟩
    · exact absurd (h1 j g1) g2
    · exact ⟨rfl, rfl⟩
theorem chkC_ex (L : List Cd) : ∃ i e, ChkC L i e := by
  have key : ∀ n, n ≤ L.length → (∀ k, k < n → CardAt L k) ∨ ∃ i, i < n ∧ ¬ CardAt L i ∧ ∀ k, k < i → CardAt L k := by
    intro n
    induction n with
    | zero => exact fun _ => .inl fun k hk => by omega
    | succ n ih =>
      intro hn
      rcases ih (by omega) with h | ⟨i, hi, h⟩
      · by_cases hc : CardAt L n
        · exact .inl fun k hk => by
            by_cases hkn : k = n
            · rw [hkn]; exact hc
            · exact h k (by omega)
        · exact .inr ⟨n, by omega, hc, h⟩
      · exact .inr ⟨i, by omega, h⟩
  rcases key L.length (Nat.le_refl _) with h | ⟨i, hi, h, h'⟩
  · exact ⟨0, 0, .inr ⟨h, rfl, rfl⟩⟩
  · exact ⟨i, 70, .inl ⟨hi, h, h', rfl⟩⟩
/-- No text is too long for a walk. -/
def MildT (M : Nat) (l : List (List UInt8)) : Prop := l.length ≤ M ∧ ∀ k, (l.getD k []).length ≤ M
def MildC (M : Nat) (a : Cd) : Prop := a.name.length ≤ M ∧ a.fam.length ≤ M ∧ a.quirk.length ≤ M ∧ MildT M a.compat
def MildL (M : Nat) (L : List Cd) : Prop := L.length ≤ M ∧ ∀ k, MildC M (L.getD k cd0)
end Go.Proofs.Ytnnaoneegeenkaa.Kc
