/- The roll's cards, and what they stand for: closed facts; crystal's Rate. -/
import Derived.Test.YtnnaoneegeenkaaDoorMtC
import Derived.Test.YtnnaoneegeenkaaDoorMqE
import Derived.Test.YtnnaoneegeenkaaDoorRlR
namespace Go.Proofs.YtnnaoneegeenkaaDoor.Mu
open Go.ChangeShapes Go.WideShapes Go.ChangeAt Go.RowKit Own Ro Kc wordsNames Go.Maps Go.WideMaps
open Mt Mq
open Rm (T5)
open Ka (i64s i64s_len i64s_at)
open Kq (lookT tabsI)

theorem allOk_SL : AllOk SL := fun k hk => by
  rw [SL_len] at hk
  refine ⟨by omega, SL_ok k hk, fun j hj e => ?_⟩
  have := SLd j (by omega) k hk e
  omega
def tx0 (i : Nat) : Tx := (SL.getD i cd0).compat.getD 0 []
def bk (i : Nat) : Nat := (best SL 22 (tx0 i)).getD 0
set_option maxRecDepth 100000 in
theorem bk_ok : ∀ i < 22, best SL 22 (tx0 i) = some (bk i) ∧ bk i < 22 ∧ (bk i = i ∨ (SL.getD i cd0).score ≤ (SL.getD (bk i) cd0).score) := by decide +kernel
def watchT : Tx := [97, 99, 109, 101, 44, 119, 97, 116, 99, 104]
def nobodyT : Tx := [110, 111, 98, 111, 100, 121]
def wk : Nat := (best SL 22 watchT).getD 0
set_option maxRecDepth 100000 in
theorem wk_ok : best SL 22 watchT = some wk ∧ wk < 22 ∧ best SL 22 nobodyT = none ∧ (SL.getD wk cd0).name = [119, 97, 116, 99, 104, 45, 99, 108, 111, 99, 107] := by decide +kernel
def tabS (i : Nat) : List Int := lookT (tabsI 5) (SL.getD i cd0).fam
def quS (i : Nat) : Nat := (qOf (SL.getD i cd0).quirk).getD 0
set_option maxRecDepth 100000 in
theorem roll_ok : ∀ i < 22, tabS i ≠ [] ∧ qOf (SL.getD i cd0).quirk = some (quS i) ∧ (SL.getD i cd0).entry < ((tabS i).length : Int) ∧ ((SL.getD i cd0).fam = [99, 114, 121, 115, 116, 97, 108] → tabS i = Rm.Ct.tab) := by
  unfold tabS
  rw [Kq.tabs5]
  decide +kernel
set_option maxRecDepth 100000 in
theorem watch_8192 : (SL.getD wk cd0).entry = 0 ∧ qnV (quS wk) ((tabS wk).getD (SL.getD wk cd0).entry.toNat 0) = 8192 := by
  unfold tabS
  rw [Kq.tabs5]
  decide +kernel
/-- What a card of the roll stands for. -/
def stS (i : Nat) : Int := if (SL.getD i cd0).entry < 0 then 0 else qnV (quS i) ((tabS i).getD (SL.getD i cd0).entry.toNat 0)
theorem setRel_SL (i : Nat) (hi : i < 22) : SetRel (SL.getD i cd0) (lookT (tabsI 5) (SL.getD i cd0).fam) (stS i) 0 := by
  obtain ⟨h1, h2, h3, _⟩ := roll_ok i hi
  unfold stS
  by_cases h : (SL.getD i cd0).entry < 0
  · rw [if_pos h]
    exact .inr (.inr (.inl ⟨SL_ok i hi, h1, ⟨_, h2⟩, h, rfl, rfl⟩))
  · rw [if_neg h]
    exact .inr (.inr (.inr ⟨SL_ok i hi, h1, _, h2, by omega, h3, rfl, rfl⟩))
set_option maxRecDepth 100000 in
theorem isPlace_any (i : Int) (w : World) (h0 : 0 ≤ i) (h1 : i < 32) : Calls Tryd.prog 48 #[.int .i64 i] w (fun e w' => e = .returned (.bool true) ∧ w' = w) := by
  go_enter Tryd.func48, Tryd.ntmps48
  go_wp2_with fail
  go_ret
  exact ⟨rfl, rfl⟩
set_option maxRecDepth 100000 in
theorem rate_any (i : Int) (w : World) (ht : T5 w) (h0 : 0 ≤ i) (h1 : i < 32) : Calls Tryd.prog 24 #[.int .i64 i] w (fun e w' => e = .returned (.tuple #[.int .i64 (Rm.Ct.ent i), .int .i64 0]) ∧ w' = w) := by
  have ec := ht.c.at h0 h1
  generalize Rm.Ct.ent i = x at ec ⊢
  go_enter Tryd.func24, Tryd.ntmps24
  go_wp2_with fail
  refine (isPlace_any i w h0 h1).mono ?_
  rintro e w1 ⟨rfl, rfl⟩
  go_wp2_with fail
  go_ret2
  exact ⟨rfl, rfl⟩
theorem mildL_S : MildL 1099511627776 SL := ⟨by rw [SL_len]; decide, fun k => Kq.mild_big (mild_SL k)⟩
end Go.Proofs.YtnnaoneegeenkaaDoor.Mu
