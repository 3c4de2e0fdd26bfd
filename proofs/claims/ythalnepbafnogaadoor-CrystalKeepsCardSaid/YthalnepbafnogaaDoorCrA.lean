/- The rates' table and the calls over it (P8.1, P8.2). -/
import Derived.Test.YthalnepbafnogaaDoorChecked
import Derived.Test.YthalnepbafnogaaDoorCrD
import Derived.WalkKit
import Derived.ProofKit
import Derived.Below
import Derived.Deep.MidRow
import Derived.Deep.WholeRow
import Derived.LaidMore
import Derived.Lib.OthersKept
import Derived.WalkLawsBesides
import Derived.WalkSpells
import Derived.Outline
import Derived.Lib.Hide
import Derived.Lib.Strings
import Derived.Laws.OwnMore
import Derived.Deep.QuietTactic
import Derived.Deep.RegionHeld3
import Derived.RegionTactic
import Derived.BigQuiet
import Derived.BigCall
import Derived.BigGuard
import Derived.Lib.LaidTab
namespace Go.Proofs.YthalnepbafnogaaDoor.Cr
open Go.ChangeShapes Go.WideShapes Go.ChangeAt Go.RowKit Own Ro

def tab : List Int := [32768, 2000000, 3000000, 4000000, 5000000, 6000000, 7000000, 8000000, 9000000, 10000000, 11000000, 12000000, 13000000, 14000000, 15000000, 16000000, 17000000, 18000000, 19000000, 20000000, 21000000, 22000000, 23000000, 24000000, 25000000, 26000000, 27000000, 28000000, 29000000, 30000000, 31000000, 100000000]
def tabV : List Value := tab.map (.int .i64)
def ent (i : Int) : Int := if i = 0 then 32768 else if i = 31 then 100000000 else 1000000 + 1000000 * i
/-- The array as it lies in memory. -/
def Tb (w : World) : Prop := w.rangeAt 0 0 tabV
theorem tab_at (i : Nat) (h : i < 32) : tabV[i]? = some (.int .i64 (ent i)) := by
  rcases i with _ | i
  · rfl
  · iterate 31 (rcases i with _ | i; · rfl)
    omega
theorem Tb.at {w : World} (h : Tb w) {i : Int} (h0 : 0 ≤ i) (h1 : i < 32) : w.cell? ⟨0, i.toNat, none⟩ = some (.int .i64 (ent i)) := by
  have := h i.toNat _ (tab_at i.toNat (by omega))
  rw [Nat.zero_add, show ((i.toNat : Nat) : Int) = i by omega] at this
  exact this
theorem Tb.below {w w' : World} (h : Tb w) (hb : Below w.heap.size w w') : Tb w' := fun j v hv => by
  have h1 := h j v hv
  rw [hb.cell (World.block_lt_of_cell? w _ h1)]
  exact h1
theorem Tb.alloc {w : World} (h : Tb w) (o : Obj) : Tb (w.alloc o) := World.rangeAt_alloc h o
/-- A whole array goes into the block that was made last. -/
theorem wpList_store_new {P : Program} {ops : Array Oper} {rest : List Oper} {op : Oper} {a : Act} {w : World} {Q : Exit → Act → World → Prop} (hgd : op.guard = none) (ty : TypeId) (x y : Operand) (ho : op.op = .store ty x y)
    (c c' : Array Value) (hx : a.eval x = .pointer (some ⟨w.heap.size, 0, none⟩)) (hy : a.eval y = .agg c') (hi : (P.info? ty).map (·.size) = some c'.size) (hs : c.size = c'.size) (h1 : c'.all (·.oneCell') = true)
    (h : wpList P ops Q rest (a.put op.dst undef) (w.alloc (.cells c' ty))) : wpList P ops Q (op :: rest) a (w.alloc (.cells c ty)) := by
  refine wpList_plain hgd fun _ hK => ?_
  unfold Oper.wp execOp
  simp only [ho, hx, hy, Instr.storeAt, Instr.sureAddr, Sem.run_bind, Sem.run_pure, Result.andThen_ok, run_storeVar_new w ty c c' hi hs h1]
  exact hK _ _ h
/-- A whole array out of a row. -/
theorem wpList_load_row' {P : Program} {ops : Array Oper} {rest : List Oper} {op : Oper} {a : Act} {w : World} {Q : Exit → Act → World → Prop} (hgd : op.guard = none) (ty : TypeId) (x : Operand) (ho : op.op = .load ty x)
    (b : Nat) (hx : a.eval x = .pointer (some ⟨b, 0, none⟩)) (cs : List Value) (d : TypeDesc) (hc : w.rangeAt b 0 cs)
    (hu : P.underlying ty = some d) (hd : d.isRow = true) (hi : (P.info? ty).map (·.size) = some cs.length)
    (h : wpList P ops Q rest (a.put op.dst (.agg cs.toArray)) w) : wpList P ops Q (op :: rest) a w :=
  wpList_load_mid hgd ty x ho b 0 hx cs d hc hu hd hi h
theorem range_new (w : World) (t : TypeId) (cs : List Value) : (w.alloc (.cells cs.toArray t)).rangeAt w.heap.size 0 cs := fun j v hv => by
  rw [World.cell?_alloc_at _ _ _ _ rfl, Nat.zero_add]
  simpa using hv
theorem eq_tab (w : World) : (Op.equalIn 10000 22 (.agg tabV.toArray) (.agg tabV.toArray)).run Tryd.prog w = .ok true w := by kernel_rfl
set_option maxRecDepth 100000 in
set_option maxHeartbeats 8000000 in
theorem table_any (w : World) (h : Tb w) : Calls Tryd.prog 9 #[] w (fun e w' => e = .returned (.agg tabV.toArray) ∧ Below w.heap.size w w') := by
  have H := Lib.hid h
  clear h
  go_enter Tryd.func9, Tryd.ntmps9
  go_wp2_with (first | refine wpList_load_row' rfl _ _ rfl 0 rfl tabV (.array 32 2) (H.out.alloc _) (by kernel_rfl) rfl (by kernel_rfl) ?_ | refine wpList_store_new rfl _ _ _ rfl _ tabV.toArray rfl rfl (by kernel_rfl) (by kernel_rfl) (by kernel_rfl) ?_)
  refine bodyPost_ret (results_cell_row rfl _ _ w.heap.size 22 tabV.toArray (0, 0) (.array 32 2) rfl (heap_alloc_last w _) (by kernel_rfl) rfl (by kernel_rfl)) rfl ?_
  exact ⟨rfl, grows' _ _⟩
set_option maxRecDepth 100000 in
set_option maxHeartbeats 8000000 in
theorem isPlace_any (i : Int) (w : World) : Calls Tryd.prog 20 #[.int .i64 i] w (fun e w' => e = .returned (.bool (decide (0 ≤ i ∧ i < 32))) ∧ w' = w) := by
  go_enter Tryd.func20, Tryd.ntmps20
  go_wp2_with fail
  · go_ret
    refine ⟨?_, rfl⟩
    have : ¬ (0 ≤ i ∧ i < 32) → True := fun _ => trivial
    simp_all
  · go_ret
    refine ⟨?_, rfl⟩
    rw [show (decide (0 ≤ i) && decide (i < 32)) = false by simp; omega]
    rfl
/-- A rate's period. -/
def perN (i : Int) : Nat := ((FloatKind.f64.format.div 4741671816366391296 (floatOfInt FloatKind.f64 (ent i))).getD 0)
def perV (i : Int) : Value := .float .f64 (perN i)
theorem per_all : ∀ i < 32, FloatKind.f64.format.div 4741671816366391296 (floatOfInt FloatKind.f64 (ent (i : Nat))) = some (perN (i : Nat)) := by decide +kernel
theorem per_run (i : Int) (h0 : 0 ≤ i) (h1 : i < 32) (t : TypeId) (w : World) : (binOp .quo t (.float .f64 4741671816366391296) (.float .f64 (floatOfInt FloatKind.f64 (ent i)))).run Tryd.prog w = .ok (perV i) w :=
  run_float_arith _ _ _ _ _ _ _ (by
    have := per_all i.toNat (by omega)
    rw [show ((i.toNat : Nat) : Int) = i by omega] at this
    exact this)
set_option maxRecDepth 100000 in
set_option maxHeartbeats 8000000 in
theorem rate_ok (i : Int) (w : World) (h : Tb w) (h0 : 0 ≤ i) (h1 : i < 32) : Calls Tryd.prog 10 #[.int .i64 i] w (fun e w' => e = .returned (.tuple #[.int .i64 (ent i), .int .i64 0]) ∧ w' = w) := by
  have H : decide (0 ≤ i ∧ i < 32) = true := by simp; omega
  have HC := h.at h0 h1
  have i1 : 0 ≤ i := h0
  have i2 : i < 32 := h1
  go_enter Tryd.func10, Tryd.ntmps10
  go_wp2_with fail
  refine (isPlace_any i w).mono ?_
  rintro e w1 ⟨rfl, rfl⟩
  rw [H]
  go_wp2_with fail
  go_ret2
  exact ⟨rfl, rfl⟩
set_option maxRecDepth 100000 in
set_option maxHeartbeats 8000000 in
theorem rate_bad (i : Int) (w : World) (h : ¬ (0 ≤ i ∧ i < 32)) : Calls Tryd.prog 10 #[.int .i64 i] w (fun e w' => e = .returned (.tuple #[.int .i64 0, .int .i64 1]) ∧ w' = w) := by
  have H : decide (0 ≤ i ∧ i < 32) = false := decide_eq_false h
  go_enter Tryd.func10, Tryd.ntmps10
  go_wp2_with fail
  refine (isPlace_any i w).mono ?_
  rintro e w1 ⟨rfl, rfl⟩
  rw [H]
  go_wp2_with fail
  go_ret2
  exact ⟨rfl, rfl⟩
set_option maxRecDepth 100000 in
set_option maxHeartbeats 8000000 in
theorem period_ok (i : Int) (w : World) (h : Tb w) (h0 : 0 ≤ i) (h1 : i < 32) : Calls Tryd.prog 12 #[.int .i64 i] w (fun e w' => e = .returned (.tuple #[perV i, .int .i64 0]) ∧ w' = w) := by
  have H : decide (0 ≤ i ∧ i < 32) = true := by simp; omega
  have HC := h.at h0 h1
  have HP := per_run i h0 h1 29 w
  have i1 : 0 ≤ i := h0
  have i2 : i < 32 := h1
  go_enter Tryd.func12, Tryd.ntmps12
  go_wp2_with fail
  refine (isPlace_any i w).mono ?_
  rintro e w1 ⟨rfl, rfl⟩
  rw [H]
  go_wp2_with fail
  go_ret2
  exact ⟨rfl, rfl⟩
set_option maxRecDepth 100000 in
set_option maxHeartbeats 8000000 in
theorem refEntry_any (i : Int) (w : World) (h0 : 0 ≤ i) (h1 : i < 32) : Calls Tryd.prog 14 #[.int .i64 i] w (fun e w' => e = .returned (.int .i64 (ent i)) ∧ w' = w) := by
  have i1 : 0 ≤ i := h0
  have i2 : i < 32 := h1
  go_enter Tryd.func14, Tryd.ntmps14
  go_wp2_with fail
  · go_ret
    refine ⟨?_, rfl⟩
    simp_all [ent]
  · go_ret
    refine ⟨?_, rfl⟩
    simp_all [ent]
  · go_ret
    refine ⟨?_, rfl⟩
    simp_all [ent]
set_option maxRecDepth 100000 in
set_option maxHeartbeats 8000000 in
theorem refPeriod_ok (i : Int) (w : World) (h0 : 0 ≤ i) (h1 : i < 32) : Calls Tryd.prog 13 #[.int .i64 i] w (fun e w' => e = .returned (.tuple #[perV i, .int .i64 0]) ∧ w' = w) := by
  have H : (decide (i < 0) || decide (31 < i)) = false := by simp; omega
  have HP := per_run i h0 h1 29 w
  have i1 : 0 ≤ i := h0
  have i2 : i < 32 := h1
  go_enter Tryd.func13, Tryd.ntmps13
  go_wp2_with fail
  refine (refEntry_any i w h0 h1).mono ?_
  rintro e w1 ⟨rfl, rfl⟩
  go_wp2_with fail
  go_ret2
  exact ⟨rfl, rfl⟩
set_option maxRecDepth 100000 in
set_option maxHeartbeats 8000000 in
theorem refAway_any (a b : Int) (w : World) (h0 : 0 ≤ a) (h1 : a ≤ 9223372036854775807) (h2 : 0 ≤ b) (h3 : b ≤ 9223372036854775807) : Calls Tryd.prog 22 #[.int .i64 a, .int .i64 b] w (fun e w' => e = .returned (.int .i64 (max (a - b) (b - a))) ∧ w' = w) := by
  go_enter Tryd.func22, Tryd.ntmps22
  go_wp2_with fail
  · go_ret
    exact ⟨by rw [show max (a - b) (b - a) = b - a by omega]; rfl, rfl⟩
  · go_ret
    exact ⟨by rw [show max (a - b) (b - a) = a - b by omega]; rfl, rfl⟩
set_option maxRecDepth 100000 in
set_option maxHeartbeats 8000000 in
theorem period_bad (i : Int) (w : World) (h : ¬ (0 ≤ i ∧ i < 32)) : Calls Tryd.prog 12 #[.int .i64 i] w (fun e w' => e = .returned (.tuple #[.float .f64 0, .int .i64 1]) ∧ w' = w) := by
  have H : decide (0 ≤ i ∧ i < 32) = false := decide_eq_false h
  go_enter Tryd.func12, Tryd.ntmps12
  go_wp2_with fail
  refine (isPlace_any i w).mono ?_
  rintro e w1 ⟨rfl, rfl⟩
  rw [H]
  go_wp2_with fail
  go_ret2
  exact ⟨rfl, rfl⟩
set_option maxRecDepth 100000 in
set_option maxHeartbeats 8000000 in
theorem refPeriod_bad (i : Int) (w : World) (h : ¬ (0 ≤ i ∧ i < 32)) : Calls Tryd.prog 13 #[.int .i64 i] w (fun e w' => e = .returned (.tuple #[.float .f64 0, .int .i64 1]) ∧ w' = w) := by
  go_enter Tryd.func13, Tryd.ntmps13
  go_wp2_with fail
  all_goals first
    | (go_ret2; exact ⟨rfl, rfl⟩)
    | (exfalso; omega)
/-- How far an entry is from what is wanted. -/
def dst (x i : Int) : Int := max (ent i - x) (x - ent i)
/-- The nearest of the first k entries. -/
def nr (x : Int) : Nat → Nat
  | 0 => 0
  | k + 1 => if dst x k < dst x (nr x k) then k else nr x k
theorem nr_lt (x : Int) (k : Nat) : nr x k < max 1 k := by
  induction k with
  | zero => show (0 : Nat) < _; omega
  | succ k ih =>
    unfold nr
    split <;> omega
theorem nr_one (x : Int) : nr x 1 = 0 := by unfold nr; simp [nr]
theorem ent_bd (i : Int) (h0 : 0 ≤ i) (h1 : i < 32) : 32768 ≤ ent i ∧ ent i ≤ 100000000 := by unfold ent; split <;> (try split) <;> omega
theorem nr_least (x : Int) (k : Nat) : ∀ i, i < k → dst x (nr x k) ≤ dst x i ∧ (dst x i = dst x (nr x k) → nr x k ≤ i) := by
  induction k with
  | zero => intro i hi; omega
  | succ k ih =>
    intro i hi
    have hlt := nr_lt x k
    unfold nr
    by_cases hd : dst x k < dst x (nr x k)
    · rw [if_pos hd]
      by_cases hik : i = k
      · subst hik; exact ⟨Int.le_refl _, fun _ => Nat.le_refl _⟩
      · have := ih i (by omega)
        exact ⟨by omega, fun h => by omega⟩
    · rw [if_neg hd]
      by_cases hik : i = k
      · subst hik
        refine ⟨by omega, fun _ => ?_⟩
        rcases Nat.eq_zero_or_pos i with h0 | h0
        · subst h0; exact Nat.le_refl _
        · omega
      · exact ih i (by omega)
theorem near_ent : ∀ i < 32, nr (ent (i : Nat)) 32 = i := by decide +kernel
set_option maxRecDepth 100000 in
set_option maxHeartbeats 8000000 in
theorem close_any (i x : Int) (b : Nat) (w : World) (h : Tb w) (hx : w.cell? ⟨b, 0, none⟩ = some (.int .i64 x)) (h0 : 0 ≤ i) (h1 : i < 32) (hx0 : 0 ≤ x) (hx1 : x ≤ 9223372036854775807) :
    Calls Tryd.prog 21 #[.int .i64 i, .pointer (some ⟨b, 0, none⟩)] w (fun e w' => e = .returned (.int .i64 (dst x i)) ∧ ∃ q, w' = w.drewN q) := by
  have HC := h.at h0 h1
  obtain ⟨e1, e2⟩ := ent_bd i h0 h1
  have HD := Lib.hid (show dst x i = max (ent i - x) (x - ent i) from rfl)
  generalize dst x i = d at HD ⊢
  generalize ent i = en at HC e1 e2 HD
  go_enter Tryd.func21, Tryd.ntmps21
  go_wp2_with fail
  go_region
  all_goals go_wp2_with fail
  all_goals go_ret
  all_goals refine ⟨?_, _, rfl⟩
  all_goals rw [HD.out]
  all_goals first
    | (rw [show max (en - x) (x - en) = en - x by omega]; rfl)
    | (rw [show max (en - x) (x - en) = x - en by omega]; rfl)
set_option maxRecDepth 100000 in
set_option maxHeartbeats 8000000 in
theorem near_bad (x : Int) (w : World) (h : x < 0) : Calls Tryd.prog 11 #[.int .i64 x] w (fun e w' => e = .returned (.tuple #[.int .i64 0, .int .i64 1]) ∧ Below w.heap.size w w') := by
  go_enter Tryd.func11, Tryd.ntmps11
  go_wp2_with fail
  go_ret2
  exact ⟨rfl, grows' _ _⟩
set_option maxRecDepth 100000 in
set_option maxHeartbeats 8000000 in
theorem near_ok (x : Int) (w : World) (h : Tb w) (h0 : 0 ≤ x) (h1 : x ≤ 9223372036854775807) : Calls Tryd.prog 11 #[.int .i64 x] w (fun e w' => e = .returned (.tuple #[.int .i64 (nr x 32 : Nat), .int .i64 0]) ∧ Below w.heap.size w w') := by
  have HT := Lib.hid h
  clear h
  go_enter Tryd.func11, Tryd.ntmps11
  go_wp2_with fail
  go_loopw [5, 10] (fun v5 v10 wr => ∃ (k : Nat), k ≤ 32 ∧ v5 = .int .i64 (nr x k : Nat) ∧ v10 = .int .i64 (k : Int) ∧ ∃ q, wr = (w.alloc (.cells #[.int .i64 x] 2)).drewN q) (fun _ v10 _ => 32 - (RowKit.intOf v10).toNat)
  case atStart => exact ⟨0, by omega, rfl, rfl, 0, rfl⟩
  case round =>
    obtain ⟨k, hk, rfl, rfl, q, rfl⟩ := hrel
    by_cases hlt : k < 32
    · have l1 : (0 : Int) ≤ (k : Int) := by omega
      have l2 : (k : Int) < 32 := by omega
      have m1 : nr x k < 32 := by have := nr_lt x k; omega
      have hS : nr x (k + 1) = if dst x k < dst x (nr x k) then k else nr x k := rfl
      have HS := Lib.hid hS
      clear hS
      have HC1 := Lib.hid fun (q2 : Nat) => close_any (k : Int) x w.heap.size (((w.alloc (.cells #[.int .i64 x] 2)).drewN q2)) (HT.out.alloc _) (by show (w.alloc _).cell? _ = _; rw [World.cell?_alloc_at _ _ _ _ rfl]; rfl) l1 l2 h0 h1
      have HC2 := Lib.hid fun (q2 : Nat) => close_any (nr x k : Nat) x w.heap.size (((w.alloc (.cells #[.int .i64 x] 2)).drewN q2)) (HT.out.alloc _) (by show (w.alloc _).cell? _ = _; rw [World.cell?_alloc_at _ _ _ _ rfl]; rfl) (by omega) (by omega) h0 h1
      generalize nr x k = m at HC2 HS m1
      go_wp2_with fail
      refine (HC1.out q).mono ?_
      rintro e w1 ⟨rfl, q1, rfl⟩
      go_wp2_with fail
      refine (HC2.out _).mono ?_
      rintro e w1 ⟨rfl, q1', rfl⟩
      by_cases hd : dst x k < dst x m
      · have hdd : decide (dst x k < dst x m) = true := decide_eq_true hd
        go_wp2_with fail
        go_roundw
        case rel =>
          exact ⟨k + 1, by omega, by rw [HS.out, if_pos hd], by go_num, _, rfl⟩
        case measure => simp [RowKit.intOf]; omega
      · have hdd : decide (dst x k < dst x m) = false := decide_eq_false hd
        have HDN := Lib.hid hd
        go_wp2_with fail
        go_roundw
        case rel =>
          exact ⟨k + 1, by omega, by rw [HS.out, if_neg (by have := HDN.out; omega)], by go_num, _, rfl⟩
        case measure => simp [RowKit.intOf]; omega
    · obtain rfl : k = 32 := by omega
      go_wp2_with fail
      go_ret2
      exact ⟨rfl, below_dr (grows' _ _) _⟩
set_option maxRecDepth 100000 in
set_option maxHeartbeats 8000000 in
theorem refNear_ok (x : Int) (w : World) (h0 : 0 ≤ x) (h1 : x ≤ 9223372036854775807) : Calls Tryd.prog 15 #[.int .i64 x] w (fun e w' => e = .returned (.tuple #[.int .i64 (nr x 32 : Nat), .int .i64 0]) ∧ ∃ q, w' = w.drewN q) := by
  go_enter Tryd.func15, Tryd.ntmps15
  go_wp2_with fail
  go_loopw [4, 5] (fun v4 v5 wr => ∃ (k : Nat), 1 ≤ k ∧ k ≤ 32 ∧ v4 = .int .i64 (nr x k : Nat) ∧ v5 = .int .i64 (k : Int) ∧ ∃ q, wr = w.drewN q) (fun _ v5 _ => 32 - (RowKit.intOf v5).toNat)
  case atStart => exact ⟨1, by omega, by omega, by rw [nr_one]; rfl, rfl, 0, rfl⟩
  case round =>
    obtain ⟨k, hk1, hk, rfl, rfl, q, rfl⟩ := hrel
    by_cases hlt : k < 32
    · have l1 : (0 : Int) ≤ (k : Int) := by omega
      have l2 : (k : Int) < 32 := by omega
      have m1 : nr x k < 32 := by have := nr_lt x k; omega
      have hS : nr x (k + 1) = if dst x k < dst x (nr x k) then k else nr x k := rfl
      have HS := Lib.hid hS
      clear hS
      generalize nr x k = m at HS m1
      go_wp2_with fail
      refine (refEntry_any _ _ l1 l2).mono ?_
      rintro e w1 ⟨rfl, rfl⟩
      have eb1 := ent_bd k l1 l2
      have eb2 := ent_bd m (by omega) (by omega)
      have HA1 := Lib.hid fun W => refAway_any (ent k) x W (by omega) (by omega) h0 h1
      have HA2 := Lib.hid fun W => refAway_any (ent m) x W (by omega) (by omega) h0 h1
      change Hid (∀ W, Calls Tryd.prog 22 #[.int .i64 (ent k), .int .i64 x] W (fun e w' => e = .returned (.int .i64 (dst x k)) ∧ w' = W)) at HA1
      change Hid (∀ W, Calls Tryd.prog 22 #[.int .i64 (ent m), .int .i64 x] W (fun e w' => e = .returned (.int .i64 (dst x m)) ∧ w' = W)) at HA2
      go_wp2_with fail
      refine (HA1.out _).mono ?_
      rintro e w1 ⟨rfl, rfl⟩
      go_wp2_with fail
      refine (refEntry_any _ _ (by omega) (by omega)).mono ?_
      rintro e w1 ⟨rfl, rfl⟩
      go_wp2_with fail
      refine (HA2.out _).mono ?_
      rintro e w1 ⟨rfl, rfl⟩
      by_cases hd : dst x k < dst x m
      · have hdd : decide (dst x k < dst x m) = true := decide_eq_true hd
        go_wp2_with fail
        go_roundw
        case rel =>
          exact ⟨k + 1, by omega, by omega, by rw [HS.out, if_pos hd], by go_num, _, rfl⟩
        case measure => simp [RowKit.intOf]; omega
      · have hdd : decide (dst x k < dst x m) = false := decide_eq_false hd
        have HDN := Lib.hid hd
        go_wp2_with fail
        go_roundw
        case rel =>
          exact ⟨k + 1, by omega, by omega, by rw [HS.out, if_neg (by have := HDN.out; omega)], by go_num, _, rfl⟩
        case measure => simp [RowKit.intOf]; omega
    · obtain rfl : k = 32 := by omega
      go_wp2_with fail
      go_ret2
      exact ⟨rfl, _, rfl⟩
set_option maxRecDepth 100000 in
set_option maxHeartbeats 8000000 in
theorem awake_any (w : World) (h : Tb w) : Calls Tryd.prog 18 #[] w (fun e w' => e = .returned (.bool true) ∧ ∃ q, w' = w.drewN q) := by
  have R0 := rate_ok 0 w h (by omega) (by omega)
  have R1 := rate_ok 31 w h (by omega) (by omega)
  have D := divider_any 100 30 w
  rw [show (ent 0) = 32768 from rfl] at R0
  rw [show (ent 31) = 100000000 from rfl] at R1
  rw [show divide 100 30 = (4, 0) by decide] at D
  go_enter Tryd.func18, Tryd.ntmps18
  go_wp2_with fail
  refine R0.mono ?_
  rintro e w1 ⟨rfl, rfl⟩
  go_wp2_with fail
  refine R1.mono ?_
  rintro e w1 ⟨rfl, rfl⟩
  go_wp2_with fail
  refine D.mono ?_
  rintro e w1 ⟨rfl, rfl⟩
  go_wp2_with fail
  go_ret
  exact ⟨rfl, 0, rfl⟩
set_option maxRecDepth 100000 in
set_option maxHeartbeats 8000000 in
theorem refNear_bad (x : Int) (w : World) (h : x < 0) : Calls Tryd.prog 15 #[.int .i64 x] w (fun e w' => e = .returned (.tuple #[.int .i64 0, .int .i64 1]) ∧ ∃ q, w' = w.drewN q) := by
  go_enter Tryd.func15, Tryd.ntmps15
  go_wp2_with fail
  go_ret2
  exact ⟨rfl, 0, rfl⟩
def nearV (x : Int) : Int × Int := if x < 0 then (0, 1) else ((nr x 32 : Nat), 0)
theorem near_any (x : Int) (w : World) (h : Tb w) (h1 : x ≤ 9223372036854775807) : Calls Tryd.prog 11 #[.int .i64 x] w (fun e w' => e = .returned (.tuple #[.int .i64 (nearV x).1, .int .i64 (nearV x).2]) ∧ Below w.heap.size w w') := by
  by_cases hx : x < 0
  · refine (near_bad x w hx).mono ?_
    rintro e w' ⟨rfl, hb⟩
    exact ⟨by unfold nearV; rw [if_pos hx], hb⟩
  · refine (near_ok x w h (by omega) h1).mono ?_
    rintro e w' ⟨rfl, hb⟩
    exact ⟨by unfold nearV; rw [if_neg hx], hb⟩
theorem refNear_any (x : Int) (w : World) (h1 : x ≤ 9223372036854775807) : Calls Tryd.prog 15 #[.int .i64 x] w (fun e w' => e = .returned (.tuple #[.int .i64 (nearV x).1, .int .i64 (nearV x).2]) ∧ ∃ q, w' = w.drewN q) := by
  by_cases hx : x < 0
  · refine (refNear_bad x w hx).mono ?_
    rintro e w' ⟨rfl, hb⟩
    exact ⟨by unfold nearV; rw [if_pos hx], hb⟩
  · refine (refNear_ok x w (by omega) h1).mono ?_
    rintro e w' ⟨rfl, hb⟩
    exact ⟨by unfold nearV; rw [if_neg hx], hb⟩
def rateV (i : Int) : Int × Int := if 0 ≤ i ∧ i < 32 then (ent i, 0) else (0, 1)
def perP (i : Int) : Nat × Int := if 0 ≤ i ∧ i < 32 then (perN i, 0) else (0, 1)
theorem rate_any (i : Int) (w : World) (h : Tb w) : Calls Tryd.prog 10 #[.int .i64 i] w (fun e w' => e = .returned (.tuple #[.int .i64 (rateV i).1, .int .i64 (rateV i).2]) ∧ w' = w) := by
  by_cases hi : 0 ≤ i ∧ i < 32
  · refine (rate_ok i w h hi.1 hi.2).mono ?_
    rintro e w' ⟨rfl, hb⟩
    exact ⟨by unfold rateV; rw [if_pos hi], hb⟩
  · refine (rate_bad i w hi).mono ?_
    rintro e w' ⟨rfl, hb⟩
    exact ⟨by unfold rateV; rw [if_neg hi], hb⟩
theorem period_any (i : Int) (w : World) (h : Tb w) : Calls Tryd.prog 12 #[.int .i64 i] w (fun e w' => e = .returned (.tuple #[.float .f64 (perP i).1, .int .i64 (perP i).2]) ∧ w' = w) := by
  by_cases hi : 0 ≤ i ∧ i < 32
  · refine (period_ok i w h hi.1 hi.2).mono ?_
    rintro e w' ⟨rfl, hb⟩
    exact ⟨by unfold perP; rw [if_pos hi]; rfl, hb⟩
  · refine (period_bad i w hi).mono ?_
    rintro e w' ⟨rfl, hb⟩
    exact ⟨by unfold perP; rw [if_neg hi], hb⟩
theorem refPeriod_any (i : Int) (w : World) : Calls Tryd.prog 13 #[.int .i64 i] w (fun e w' => e = .returned (.tuple #[.float .f64 (perP i).1, .int .i64 (perP i).2]) ∧ w' = w) := by
  by_cases hi : 0 ≤ i ∧ i < 32
  · refine (refPeriod_ok i w hi.1 hi.2).mono ?_
    rintro e w' ⟨rfl, hb⟩
    exact ⟨by unfold perP; rw [if_pos hi]; rfl, hb⟩
  · refine (refPeriod_bad i w hi).mono ?_
    rintro e w' ⟨rfl, hb⟩
    exact ⟨by unfold perP; rw [if_neg hi], hb⟩
end Go.Proofs.YthalnepbafnogaaDoor.Cr
