/- Registries: New, Mark, Cards, Refused, Notes. -/
import Derived.Test.YtinocgngjhomcaaDoorKsE
namespace Go.Proofs.YtinocgngjhomcaaDoor.Kr
open Go.ChangeShapes Go.WideShapes Go.ChangeAt Go.RowKit Own Ro wordsNames Kc

def plain (C : Cs) : List Cd := C.map (·.1)
theorem cards_any (g : Nat) (C F : Cs) (N : List Nt) (z : Bool) (w : World) (h : RegAt w g C F N z) : Calls Tryd.prog 25 #[.pointer (some ⟨g, 0, none⟩)] w (MadeL (plain C) w) := by
  have HT := Lib.hid (told_any g 0 [] (roomV F ++ (noteV N ++ [.bool z])) C w h.blk rfl (by omega) h.c64 h.cm h.ct)
  clear h
  go_enter Tryd.func25, Tryd.ntmps25
  go_wp2_with (go_at_call 43; refine HT.out.mono ?_; rintro e w5 ⟨A, c, n, R, rfl, hr, hb⟩; have HR := Lib.hid hr; have HB := Lib.hid hb; clear hr hb)
  go_ret
  exact ⟨A, c, n, R, rfl, HR.out, HB.out⟩
theorem refused_any (g : Nat) (C F : Cs) (N : List Nt) (z : Bool) (w : World) (h : RegAt w g C F N z) : Calls Tryd.prog 26 #[.pointer (some ⟨g, 0, none⟩)] w (MadeL (plain F) w) := by
  have HT := Lib.hid (told_any g 449 (roomV C) (noteV N ++ [.bool z]) F w h.blk (roomV_len C h.c64) (by omega) h.f64 h.fm h.ft)
  clear h
  go_enter Tryd.func26, Tryd.ntmps26
  go_wp2_with (go_at_call 43; refine HT.out.mono ?_; rintro e w5 ⟨A, c, n, R, rfl, hr, hb⟩; have HR := Lib.hid hr; have HB := Lib.hid hb; clear hr hb)
  go_ret
  exact ⟨A, c, n, R, rfl, HR.out, HB.out⟩
theorem cards_nil (w : World) : Calls Tryd.prog 25 #[.pointer none] w fun e w' => e = .returned (.slice none 0 0) ∧ w = w' := by
  go_enter Tryd.func25, Tryd.ntmps25
  go_wp2_with fail
  go_ret
  exact ⟨rfl, rfl⟩
theorem refused_nil (w : World) : Calls Tryd.prog 26 #[.pointer none] w fun e w' => e = .returned (.slice none 0 0) ∧ w = w' := by
  go_enter Tryd.func26, Tryd.ntmps26
  go_wp2_with fail
  go_ret
  exact ⟨rfl, rfl⟩
end Go.Proofs.YtinocgngjhomcaaDoor.Kr
