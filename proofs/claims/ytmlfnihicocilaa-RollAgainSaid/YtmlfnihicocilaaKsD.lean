/- Registries: open, Freeze, Frozen, Enter. -/
import Derived.Test.YtmlfnihicocilaaKrC
namespace Go.Proofs.Ytmlfnihicocilaa.Kr
open Go.ChangeShapes Go.WideShapes Go.ChangeAt Go.RowKit Own Ro wordsNames Kc

theorem open_nil (w : World) : Calls Try.prog 20 #[.pointer none] w fun e w' => e = .returned (.int .i64 2) ∧ w = w' := by
  go_enter Try.func20, Try.ntmps20
  go_wp2_with fail
  go_ret
  exact ⟨rfl, rfl⟩
def openE (z : Bool) : Int := if z then 5 else 0
theorem open_any (g : Nat) (C F : Cs) (N : List Nt) (z : Bool) (w : World) (h : RegAt w g C F N z) : Calls Try.prog 20 #[.pointer (some ⟨g, 0, none⟩)] w fun e w' => e = .returned (.int .i64 (openE z)) ∧ w = w' := by
  have c := h.blk.cell (reg_z h.c64 h.f64 h.n256)
  clear h
  cases z
  all_goals
    go_enter Try.func20, Try.ntmps20
    go_wp2_with fail
    go_ret
    exact ⟨rfl, rfl⟩
theorem regV_z (C F : Cs) (N : List Nt) (z : Bool) (hC : C.length ≤ 64) (hF : F.length ≤ 64) (hN : N.length ≤ 256) (y : Bool) : (regV C F N z).set 1923 (.bool y) = regV C F N y := by
  have e : ∀ b : Bool, regV C F N b = (roomV C ++ (roomV F ++ noteV N)) ++ (.bool b :: []) := fun b => by unfold regV; simp
  rw [e, e]
  exact set_at _ _ _ _ _ (by rw [List.length_append, List.length_append, roomV_len C hC, roomV_len F hF, noteV_len N hN])
theorem txin_own {w w' : World} {g : Nat} {d : Cd} {r : Sl} (hg : g < w.heap.size) (hr : r.2.1 = d.compat.length) (ho : w'.ownsRow w.heap.size 9 1 (slV r) r.2.1 (strs d.compat)) : TxIn w' g (d, r) := by
  obtain ⟨ra, rn, rc⟩ := r
  obtain ⟨A, c, hv, hn, hle⟩ := own_srcK ho
  simp only [slV] at hv
  injection hv with h1 h2 h3
  subst h1 h3
  refine ⟨hr, own_cells ho, hn, hle, fun a ha => ?_⟩
  obtain ⟨g', hA, hb⟩ : ∃ g', ra = some ⟨g', 0, none⟩ ∧ w.heap.size ≤ g' := by
    rcases ho.2 with ⟨hv, _⟩ | ⟨g', cap, cur, hv, hb, _⟩
    · simp only [slV] at hv
      injection hv with h1 _ _
      rw [h1] at ha
      cases ha
    · simp only [slV] at hv
      injection hv with h1 _ _
      exact ⟨g', h1, hb⟩
  have ha' : ra = some a := ha
  rw [hA] at ha'
  injection ha' with ha'
  rw [← ha']
  show g' ≠ g
  omega
theorem mild_snoc {C : Cs} {d : Cd × Sl} (h : ∀ k, MildC 1099511627776 (C.getD k zc).1) (hd : MildC 1099511627776 d.1) : ∀ k, MildC 1099511627776 ((C ++ [d]).getD k zc).1 := fun k => by
  by_cases h1 : k < C.length
  · rw [getD_sn C d zc k h1]
    exact h k
  · by_cases h2 : k = C.length
    · rw [h2, getD_la]
      exact hd
    · rw [List.getD_eq_getElem?_getD, List.getElem?_eq_none (by rw [List.length_append, List.length_singleton]; omega)]
      exact ⟨Nat.zero_le _, Nat.zero_le _, Nat.zero_le _, Nat.zero_le _, fun k => by simp [zc, cd0]⟩
theorem reg_put_c {w w' : World} {g : Nat} {C F : Cs} {N : List Nt} {z : Bool} {d : Cd} {r : Sl} (h : RegAt w g C F N z) (hgb : w.grownBy w' (some g)) (hb : Blk w' g ([] ++ (roomV (C ++ [(d, r)]) ++ (roomV F ++ (noteV N ++ [.bool z]))))) (h64 : C.length < 64) (ht : TxIn w' g (d, r)) (hm : MildC 1099511627776 d) : RegAt w' g (C ++ [(d, r)]) F N z :=
  ⟨hb, by rw [List.length_append, List.length_singleton]; omega, h.f64, h.n256, (h.ct.kept hgb).snoc ht, h.ft.kept hgb, mild_snoc h.cm hm, h.fm⟩
theorem reg_put_f {w w' : World} {g : Nat} {C F : Cs} {N : List Nt} {z : Bool} {d : Cd} {r : Sl} (h : RegAt w g C F N z) (hgb : w.grownBy w' (some g)) (hb : Blk w' g (roomV C ++ (roomV (F ++ [(d, r)]) ++ (noteV N ++ [.bool z])))) (h64 : F.length < 64) (ht : TxIn w' g (d, r)) (hm : MildC 1099511627776 d) : RegAt w' g C (F ++ [(d, r)]) N z :=
  ⟨hb, h.c64, by rw [List.length_append, List.length_singleton]; omega, h.n256, h.ct.kept hgb, (h.ft.kept hgb).snoc ht, h.cm, mild_snoc h.fm hm⟩
def Dup (C : Cs) (x : List UInt8) : Prop := ∃ i, i < C.length ∧ (C.getD i zc).1.name = x
/-- What entering a card turns. -/
def EnterRel (C F : Cs) (z : Bool) (d : Cd) (B : Nat) (C' F' : Cs) (er : Int) : Prop :=
  (z = true ∧ er = 5 ∧ C' = C ∧ F' = F) ∨ (z = false ∧ ¬ CardOk d ∧ er = 70 ∧ C' = C ∧ F' = F) ∨
  (z = false ∧ CardOk d ∧ Dup C d.name ∧ F.length = 64 ∧ er = 3 ∧ C' = C ∧ F' = F) ∨ (z = false ∧ CardOk d ∧ Dup C d.name ∧ F.length < 64 ∧ er = 71 ∧ C' = C ∧ ∃ r : Sl, F' = F ++ [(d, r)] ∧ ∀ a, r.1 = some a → B ≤ a.block) ∨
  (z = false ∧ CardOk d ∧ ¬ Dup C d.name ∧ C.length = 64 ∧ er = 3 ∧ C' = C ∧ F' = F) ∨ (z = false ∧ CardOk d ∧ ¬ Dup C d.name ∧ C.length < 64 ∧ er = 0 ∧ F' = F ∧ ∃ r : Sl, C' = C ++ [(d, r)] ∧ ∀ a, r.1 = some a → B ≤ a.block)
def EnterPost (g : Nat) (C F : Cs) (N : List Nt) (z : Bool) (d : Cd) (w : World) (e : Ending) (w' : World) : Prop :=
  ∃ C' F' er, e = .returned (.int .i64 er) ∧ RegAt w' g C' F' N z ∧ w.grownBy w' (some g) ∧ EnterRel C F z d w.heap.size C' F' er
theorem own_from {w : World} {base : Nat} {E : TypeId} {k n : Nat} {r : Sl} {xs : List Value} (h : w.ownsRow base E k (slV r) n xs) : ∀ a, r.1 = some a → base ≤ a.block := fun a ha => by
  rcases h.2 with ⟨hv, _⟩ | ⟨g', cap, cur, hv, hb, _⟩
  · simp only [slV] at hv
    injection hv with h1 _ _
    rw [h1] at ha
    cases ha
  · simp only [slV] at hv
    injection hv with h1 _ _
    rw [h1] at ha
    injection ha with ha
    rw [← ha]
    exact hb
theorem enter_nil (d : Cd) (r : Sl) (w : World) : Calls Try.prog 10 #[.pointer none, cardV d r] w fun e w' => e = .returned (.int .i64 2) ∧ Below w.heap.size w w' := by
  have B1 := Lib.hid (grows' w (.cells (cells7 d r) 34))
  unfold cardV
  unfold cells7 at B1 ⊢
  obtain ⟨nm, fm, lv, cp, sc, qk, en⟩ := d
  obtain ⟨ra, rn, rc⟩ := r
  simp only [slV] at B1 ⊢
  go_enter Try.func10, Try.ntmps10
  go_wp2_with (go_at_call 20; refine (open_nil _).mono ?_; rintro e w5 ⟨rfl, rfl⟩)
  go_ret
  exact ⟨rfl, B1.out⟩
end Go.Proofs.Ytmlfnihicocilaa.Kr
