/- Registries: New, Mark, Cards, Refused, Notes. -/
import Derived.Test.YtmlfnihicocilaaKsE
namespace Go.Proofs.Ytmlfnihicocilaa.Kr
open Go.ChangeShapes Go.WideShapes Go.ChangeAt Go.RowKit Own Ro wordsNames Kc

def plain (C : Cs) : List Cd := C.map (·.1)
theorem cards_any (g : Nat) (C F : Cs) (N : List Nt) (z : Bool) (w : World) (h : RegAt w g C F N z) : Calls Try.prog 14 #[.pointer (some ⟨g, 0, none⟩)] w (MadeL (plain C) w) := by
  have HT := Lib.hid (told_any g 0 [] (roomV F ++ (noteV N ++ [.bool z])) C w h.blk rfl (by omega) h.c64 h.cm h.ct)
  clear h
  go_enter Try.func14, Try.ntmps14
  go_wp2_with (go_at_call 25; refine HT.out.mono ?_; rintro e w5 ⟨A, c, n, R, rfl, hr, hb⟩; have HR := Lib.hid hr; have HB := Lib.hid hb; clear hr hb)
  go_ret
  exact ⟨A, c, n, R, rfl, HR.out, HB.out⟩
theorem refused_any (g : Nat) (C F : Cs) (N : List Nt) (z : Bool) (w : World) (h : RegAt w g C F N z) : Calls Try.prog 15 #[.pointer (some ⟨g, 0, none⟩)] w (MadeL (plain F) w) := by
  have HT := Lib.hid (told_any g 449 (roomV C) (noteV N ++ [.bool z]) F w h.blk (roomV_len C h.c64) (by omega) h.f64 h.fm h.ft)
  clear h
  go_enter Try.func15, Try.ntmps15
  go_wp2_with (go_at_call 25; refine HT.out.mono ?_; rintro e w5 ⟨A, c, n, R, rfl, hr, hb⟩; have HR := Lib.hid hr; have HB := Lib.hid hb; clear hr hb)
  go_ret
  exact ⟨A, c, n, R, rfl, HR.out, HB.out⟩
theorem cards_nil (w : World) : Calls Try.prog 14 #[.pointer none] w fun e w' => e = .returned (.slice none 0 0) ∧ w = w' := by
  go_enter Try.func14, Try.ntmps14
  go_wp2_with fail
  go_ret
  exact ⟨rfl, rfl⟩
theorem refused_nil (w : World) : Calls Try.prog 15 #[.pointer none] w fun e w' => e = .returned (.slice none 0 0) ∧ w = w' := by
  go_enter Try.func15, Try.ntmps15
  go_wp2_with fail
  go_ret
  exact ⟨rfl, rfl⟩
end Go.Proofs.Ytmlfnihicocilaa.Kr
