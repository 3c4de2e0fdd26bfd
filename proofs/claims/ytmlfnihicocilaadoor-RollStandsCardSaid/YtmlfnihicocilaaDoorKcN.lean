/- The program's isName, areTexts, mayBe. -/
import Derived.Test.YtmlfnihicocilaaDoorKcM
import Derived.Test.YtmlfnihicocilaaDoorNm3
import Derived.Lib.IndexLaws
import Derived.Lib.SlicesS
namespace Go.Proofs.YtmlfnihicocilaaDoor.Kc
open Go.ChangeShapes Go.WideShapes Go.ChangeAt Go.RowKit Own Ro wordsNames

theorem ixb (l : List UInt8) (c : UInt8) : 0 ≤ Lib.indexByte l c ↔ c ∈ l := by
  constructor
  · intro h
    obtain ⟨o, ho⟩ : ∃ o : Nat, Lib.indexByte l c = o := ⟨(Lib.indexByte l c).toNat, by omega⟩
    exact List.mem_of_getElem? (Lib.indexByte_some ho).1
  · intro h
    have h1 := Lib.indexByte_ge l c
    by_cases h2 : Lib.indexByte l c = -1
    · obtain ⟨k, hk⟩ := List.mem_iff_getElem?.1 h
      exact absurd hk (Lib.indexByte_none h2 k)
    · omega
theorem str_inj {a b : List UInt8} (h : str a = str b) : a = b := by
  have := congrArg (fun x : ByteArray => x.data.toList) h
  exact this
/-- slices.Contains of the first k texts. -/
theorem has_any (b o n c k : Nat) (ls : List (List UInt8)) (x : List UInt8) (g : Bool) (w : World) (hn : n = ls.length) (hnb : n ≤ 1099511627776) (hk : k ≤ n) (hc : ∀ j u, (strs ls)[j]? = some u → w.cell? ⟨b, o + j, none⟩ = some u) (hg : g = true ↔ ∃ j, j < k ∧ ls.getD j [] = x) :
    Calls Tryd.prog 33 #[.slice (some ⟨b, o, none⟩) k c, .string (str x)] w fun e w' => e = .returned (.bool g) ∧ w' = w := by
  refine (Tryd.slices_Contains_string b o k c (ls.map str) (str x) w (by simp; omega) (by omega) fun j hj => ?_).mono ?_
  · have hj' : j < ls.length := by simpa using hj
    rw [hc j _ (strs_at ls j hj')]
    congr 2
    rw [List.getD_eq_getElem?_getD, List.getD_eq_getElem?_getD, List.getElem?_map, List.getElem?_eq_getElem hj']
    rfl
  · rintro e w' ⟨rfl, rfl⟩
    refine ⟨?_, rfl⟩
    have : Lib.containsS ((ls.map str).take k) (str x) = g := by
      rw [Bool.eq_iff_iff, Lib.containsS_iff, hg]
      constructor
      · intro hm
        obtain ⟨j, hj⟩ := List.mem_iff_getElem?.1 hm
        rw [List.getElem?_take] at hj
        split at hj
        · next hjk =>
          rw [List.getElem?_map, some_at ls [] j (by omega)] at hj
          injection hj with hj
          exact ⟨j, hjk, str_inj hj⟩
        · cases hj
      · rintro ⟨j, hj, rfl⟩
        refine List.mem_iff_getElem?.2 ⟨j, ?_⟩
        rw [List.getElem?_take, if_pos hj, List.getElem?_map, some_at ls [] j (by omega)]
        rfl
    rw [this]
end Go.Proofs.YtmlfnihicocilaaDoor.Kc
