/- The document's texts and May; names of levels. -/
import Derived.Test.YtmlfnihicocilaaKcT
namespace Go.Proofs.Ytmlfnihicocilaa.Kc
open Go.ChangeShapes Go.WideShapes Go.ChangeAt Go.RowKit Own Ro wordsNames

theorem byte_eqz (c : UInt8) : ((c.toNat : Int) == 0) = decide (c = 0) := by
  rw [Bool.eq_iff_iff, decide_eq_true_eq]
  simp
  constructor
  · intro h; exact UInt8.toNat_inj.1 h
  · rintro rfl; rfl
def levelB (n : Int) : ByteArray := if n = 0 then ⟨#[101, 97, 114, 108, 121]⟩ else if n = 1 then ⟨#[98, 117, 115]⟩ else if n = 2 then ⟨#[99, 111, 114, 101]⟩ else if n = 3 then ⟨#[100, 101, 118, 105, 99, 101]⟩ else if n = 4 then ⟨#[108, 97, 116, 101]⟩ else ⟨#[]⟩
def levelE (n : Int) : Int := if 4 < n then 1 else 0
end Go.Proofs.Ytmlfnihicocilaa.Kc
