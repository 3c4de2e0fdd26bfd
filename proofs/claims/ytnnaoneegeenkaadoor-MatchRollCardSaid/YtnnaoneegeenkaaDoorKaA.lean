/- Tables of numbers: an entry and a sum, modulo 2^64; the program's and the document's Entry and Sum (P7.2). -/
import Derived.Test.YtnnaoneegeenkaaDoorChecked
import Derived.Test.YtnnaoneegeenkaaDoorRo
namespace Go.Proofs.YtnnaoneegeenkaaDoor.Ka
open Go.ChangeShapes Go.WideShapes Go.ChangeAt Go.RowKit Own Ro

theorem u_start (b s i : Int) : IntKind.u64.wrap (IntKind.u64.wrap b + IntKind.u64.wrap (IntKind.u64.wrap s * i)) = IntKind.u64.wrap (b + s * i) := by
  have e : ∀ a : Int, IntKind.u64.wrap a = a % 18446744073709551616 := fun _ => rfl
  simp only [e]
  rw [Int.mul_emod (s % 18446744073709551616) i, Int.emod_emod, ← Int.mul_emod]
  omega
def i64s (l : List Int) : List Value := l.map (.int .i64)
theorem i64s_len (l : List Int) : (i64s l).length = l.length := by simp [i64s]
theorem one_i64s (l : List Int) : ∀ u ∈ i64s l, u.oneCell' = true := by intro u hu; simp [i64s] at hu; obtain ⟨x, _, rfl⟩ := hu; rfl
theorem i64s_at (l : List Int) (i : Nat) (h : i < l.length) : (i64s l)[i]? = some (.int .i64 (l.getD i 0)) := by
  unfold i64s
  rw [List.getElem?_map, some_at l 0 i h]
  rfl
/-- A table that is read: its factor, its numbers. -/
abbrev Rt := Int × List Int
def rtHd (a : Rt) : List Value := [.int .i64 a.1, .slice none 0 0]
def rtIn (a : Rt) : List Value := i64s a.2
def KR : Kd Rt where
  k := 2
  p := 1
  q := 1
  E := 131
  F := 2
  hd := rtHd
  inn := rtIn
  len := fun a => a.2.length
  z := (0, [])
  hk := fun _ => rfl
  hq := fun a => by show (i64s a.2).length = _; rw [i64s_len]; omega
  hp := by decide
  ne := by decide
  one := by intro a u hu; simp [rtHd] at hu; rcases hu with rfl | rfl <;> rfl
  oneI := by intro a u hu; simp [rtIn, i64s] at hu; obtain ⟨x, _, rfl⟩ := hu; rfl
/-- What a table tells at i. -/
def term (i : Int) (a : Rt) : Int := if a.2 = [] then 0 else a.1 * a.2.getD (i % (a.2.length : Int)).toNat 0
def terms (i : Int) (L : List Rt) : Int := (L.map (term i)).sum
def entX (i b s : Int) (L : List Rt) : Int := b + s * i + terms i L
def entV (i b s : Int) (L : List Rt) : Int := if i < 0 then 0 else wrap64 (entX i b s L)
def sumV (l : List Int) : Int := wrap64 l.sum
theorem w_add (a b : Int) : wrap64 (wrap64 a + wrap64 b) = wrap64 (a + b) := by unfold wrap64; omega
theorem w_addl (a b : Int) : wrap64 (wrap64 a + b) = wrap64 (a + b) := by unfold wrap64; omega
theorem w_addr (a b : Int) : wrap64 (a + wrap64 b) = wrap64 (a + b) := by unfold wrap64; omega
theorem u_mod (a : Int) : IntKind.u64.wrap a = a % 18446744073709551616 := rfl
theorem u_add (a b : Int) : IntKind.u64.wrap (IntKind.u64.wrap a + IntKind.u64.wrap b) = IntKind.u64.wrap (a + b) := by simp only [u_mod]; omega
theorem u_mul (a b : Int) : IntKind.u64.wrap (IntKind.u64.wrap a * IntKind.u64.wrap b) = IntKind.u64.wrap (a * b) := by simp only [u_mod]; exact (Int.mul_emod a b _).symm
theorem w_u (a : Int) : wrap64 (IntKind.u64.wrap a) = wrap64 a := by simp only [u_mod]; unfold wrap64; omega
theorem sumS {l : List Int} {k : Nat} {x : Int} (h : l.take (k + 1) = l.take k ++ [x]) : (l.take (k + 1)).sum = (l.take k).sum + x := by rw [h]; simp
theorem sumV0 (l : List Int) : sumV (l.take 0) = 0 := by unfold sumV; simp [wrap64]
theorem termsS (i : Int) {L : List Rt} {k : Nat} (h : k < L.length) : terms i (L.take (k + 1)) = terms i (L.take k) + term i (L.getD k (0, [])) := by unfold terms; rw [takeS L (0, []) k h]; simp
theorem entS (i b s : Int) {L : List Rt} {k : Nat} (h : k < L.length) : entX i b s (L.take (k + 1)) = entX i b s (L.take k) + term i (L.getD k (0, [])) := by unfold entX; rw [termsS i h]; omega
theorem ent0 (i b s : Int) (L : List Rt) : entX i b s (L.take 0) = b + s * i := by unfold entX terms; simp
theorem term_none (i f : Int) : term i (f, []) = 0 := rfl
theorem term_some (i f : Int) (l : List Int) (h : 0 < l.length) (m : Nat) (hm : i % (l.length : Int) = m) : term i (f, l) = f * l.getD m 0 := by
  unfold term
  rw [if_neg (by intro e; rw [show l = [] from e] at h; simp at h)]
  show f * l.getD (i % (l.length : Int)).toNat 0 = _
  rw [hm]
  rfl
theorem boxA (w : World) (x y : Value) (t : TypeId) : (w.alloc (.cells #[x, y] t)).cell? ⟨w.heap.size, 0, none⟩ = some x := by rw [Lib.cell_of_heap (heap_alloc_new w _)]; rfl
theorem boxB (w : World) (x y : Value) (t : TypeId) : (w.alloc (.cells #[x, y] t)).cell? ⟨w.heap.size, 1, none⟩ = some y := by rw [Lib.cell_of_heap (heap_alloc_new w _)]; rfl
theorem u_mulL (a b : Int) : IntKind.u64.wrap (a * b) = IntKind.u64.wrap (IntKind.u64.wrap a * IntKind.u64.wrap b) := (u_mul a b).symm
set_option maxRecDepth 100000 in
set_option maxHeartbeats 8000000 in
theorem refEntry_any (A : Option Addr) (c n : Nat) (i b s : Int) (L : List Rt) (R : List Sl) (w : World) (hi9 : i ≤ 9223372036854775807) (hb : n ≤ 1099511627776) (hl9 : ∀ k, (L.getD k (0, [])).2.length ≤ 1099511627776) (hs : Ro.RowsIn KR w A n L R) :
    Calls Tryd.prog 56 #[.int .i64 i, .int .i64 b, .int .i64 s, .slice A n c] w (fun e w' => e = .returned (.int .i64 (entV i b s L)) ∧ Below w.heap.size w w') := by
  have GA := Lib.hid hs
  have HL := Lib.hid hl9
  clear hs hl9
  go_enter Tryd.func56, Tryd.ntmps56
  by_cases hi : i < 0
  · have t0 : decide (i < 0) = true := decide_eq_true hi
    go_wp2_with fail
    go_ret
    exact ⟨by unfold entV; rw [if_pos hi]; rfl, Below.refl _ _⟩
  have t0 : decide (i < 0) = false := decide_eq_false hi
  go_wp2_with fail
  have hi0 : 0 ≤ i := by omega
  go_loopw [9, 10] (fun v9 v10 wr => ∃ (k : Nat), k ≤ n ∧ v9 = .int .u64 (IntKind.u64.wrap (entX i b s (L.take k))) ∧ v10 = .int .i64 (k : Int) ∧ Below w.heap.size w wr) (fun _ v10 _ => n - (RowKit.intOf v10).toNat)
  case atStart => exact ⟨0, by omega, by rw [ent0]; exact congrArg _ (u_start b s i), rfl, Below.refl _ _⟩
  case round =>
    obtain ⟨k, hk, rfl, rfl, hbw⟩ := hrel
    have HB := Lib.hid hbw
    have hsz := hbw.size
    clear hbw
    by_cases hlt : k < n
    · obtain ⟨b0, o0, rfl, hbs, hc, hlen, hin⟩ := (GA.out.below HB.out).at hlt
      have e0 := hc 0 _ rfl
      have e1 := hc 1 _ rfl
      replace e0 : wr.cell? ⟨b0, o0 + k * 2, none⟩ = some (.int .i64 (L.getD k (0, [])).1) := e0
      replace e1 : wr.cell? ⟨b0, o0 + k * 2 + 1, none⟩ = some (slV (R.getD k sl0)) := e1
      replace hlen : (R.getD k sl0).2.1 = (L.getD k (0, [])).2.length := hlen
      replace hin : CellsIn wr 1 (R.getD k sl0).1 (R.getD k sl0).2.1 (i64s (L.getD k (0, [])).2) := hin
      have HT := Lib.hid (entS i b s (L := L) (k := k) (by rw [← GA.out.1]; exact hlt))
      have hlk := HL.out k
      clear hc
      generalize L.getD k (0, []) = d at e0 hlen hin HT hlk
      generalize R.getD k sl0 = r at e1 hlen hin
      obtain ⟨f, l⟩ := d
      obtain ⟨ra, rn, rc⟩ := r
      simp only [slV] at e0 e1 hlen hin hlk
      have HLN := Lib.hid hlen
      have HIN := Lib.hid hin
      have hrn : rn ≤ 1099511627776 := by omega
      have k1 : (0 : Int) ≤ (k : Int) := by omega
      have k2 : (k : Int) < (n : Int) := by omega
      clear hlen hin hlk
      by_cases hz : 0 < rn
      · have t1 : decide ((0 : Int) < (rn : Int)) = true := decide_eq_true (by omega)
        obtain ⟨m, hm⟩ : ∃ m : Nat, i % (rn : Int) = m := ⟨(i % (rn : Int)).toNat, by have := Int.emod_nonneg i (b := (rn : Int)) (by omega); omega⟩
        have hmr : (m : Int) < (rn : Int) := by rw [← hm]; exact Int.emod_lt_of_pos _ (by omega)
        obtain ⟨b2, o2, rfl, hb2, hc2⟩ := HIN.out.at hz
        have e2 := hc2 m _ (i64s_at l m (by rw [← HLN.out]; omega))
        have HT2 := Lib.hid (term_some i f l (by rw [← HLN.out]; exact hz) m (by rw [← HLN.out]; exact hm))
        clear hc2
        generalize l.getD m 0 = x at e2 HT2
        go_wp2_with fail
        go_region
        all_goals
          go_wp2_with fail
          go_roundw
          case rel =>
            exact ⟨k + 1, by omega, by rw [HT.out, HT2.out, u_mul, u_add], by go_num, below_dr HB.out _⟩
          case measure => simp [RowKit.intOf]; omega
      · have t1 : decide ((0 : Int) < (rn : Int)) = false := decide_eq_false (by omega)
        obtain rfl : rn = 0 := by omega
        obtain rfl : l = [] := List.eq_nil_of_length_eq_zero HLN.out.symm
        go_wp2_with fail
        go_roundw
        case rel => exact ⟨k + 1, by omega, by rw [HT.out, term_none, Int.add_zero], by go_num, HB.out⟩
        case measure => simp [RowKit.intOf]; omega
    · obtain rfl : n = k := by omega
      go_wp2_with fail
      go_ret
      exact ⟨by show Ending.returned (.int .i64 (wrap64 (IntKind.u64.wrap (entX i b s (L.take _))))) = _; rw [GA.out.1, List.take_length, w_u]; unfold entV; rw [if_neg (by omega)], HB.out⟩
/-- What 'given' hands out. -/
def MadeR (K : Kd Rt) (L : List Rt) (w : World) (e : Ending) (w' : World) : Prop :=
  ∃ A c n R, e = .returned (.slice A n c) ∧ Ro.RowsOwn K w' w.heap.size A n c L R ∧ Below w.heap.size w w'
theorem info_readR : (Tryd.prog.info? 131).map (fun i => (i.zero, i.size, i.bytes)) = some (some (.agg #[.int .i64 0, .slice none 0 0]), 2, 32) := by kernel_rfl
theorem info_i64 : (Tryd.prog.info? 2).map (fun i => (i.zero, i.size, i.bytes)) = some (some (.int .i64 0), 1, 8) := by kernel_rfl
end Go.Proofs.YtnnaoneegeenkaaDoor.Ka
