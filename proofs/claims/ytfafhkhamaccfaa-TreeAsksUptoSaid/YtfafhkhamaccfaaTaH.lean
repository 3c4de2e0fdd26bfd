/- The value of a node's prop: the document's ValueOf, the program's valueOf. -/
import Derived.Test.YtfafhkhamaccfaaTaG
namespace Go.Proofs.Ytfafhkhamaccfaa.Tr
open Go.ChangeShapes Go.WideShapes Go.ChangeAt Go.RowKit Own wordsNames

/-- The value of the first prop of that name. -/
def look : List Pr → List UInt8 → Option (List UInt8)
  | [], _ => none
  | p :: ps, nm => if p.1 = nm then some p.2 else look ps nm
theorem look_hit : ∀ (ps : List Pr) (nm : List UInt8) (i : Nat), i < ps.length → (∀ j, j < i → (ps.getD j ([], [])).1 ≠ nm) → (ps.getD i ([], [])).1 = nm → look ps nm = some (ps.getD i ([], [])).2
  | [], _, _, h, _, _ => absurd h (by simp)
  | p :: ps, nm, 0, _, _, h => by
    have h' : p.1 = nm := h
    rw [look, if_pos h']
    rfl
  | p :: ps, nm, i + 1, hi, h, he => by
    have h0 : p.1 ≠ nm := h 0 (by omega)
    rw [look, if_neg h0, look_hit ps nm i (by simpa using hi) (fun j hj => h (j + 1) (by omega)) he]
    rfl
theorem look_miss : ∀ (ps : List Pr) (nm : List UInt8), (∀ j, j < ps.length → (ps.getD j ([], [])).1 ≠ nm) → look ps nm = none
  | [], _, _ => rfl
  | p :: ps, nm, h => by
    have h0 : p.1 ≠ nm := h 0 (by simp)
    rw [look, if_neg h0]
    exact look_miss ps nm fun j hj => h (j + 1) (by simpa using hj)
theorem look_in : ∀ (ps : List Pr) (nm v : List UInt8), look ps nm = some v → ∃ i, i < ps.length ∧ (ps.getD i ([], [])).2 = v
  | [], _, _, h => by cases h
  | p :: ps, nm, v, h => by
    rw [look] at h
    split at h
    · injection h with h
      exact ⟨0, by simp, h⟩
    · obtain ⟨i, h1, h2⟩ := look_in ps nm v h
      exact ⟨i + 1, by simpa using h1, h2⟩
/-- The text that a look gives. -/
def lookT (o : Option (List UInt8)) : List UInt8 := o.getD []
def lookE (o : Option (List UInt8)) : Int := if o.isSome then 0 else 6
/-- A node as a value. -/
def ndV (d : Nd) (r : Sl) : Value := .agg #[.int .i64 d.parent, .string (str d.name), .slice r.1 r.2.1 r.2.2]

theorem look_none_of {ps : List Pr} {nm : List UInt8} {n : Nat} (hn : n = ps.length) (h : ∀ j, j < n → (ps.getD j ([], [])).1 ≠ nm) : look ps nm = none := look_miss ps nm fun j hj => h j (by omega)
set_option maxRecDepth 100000 in
set_option maxHeartbeats 4000000 in
theorem refValueOf_any (d : Nd) (r : Sl) (nm : List UInt8) (w : World) (hm : d.props.length ≤ 16777216) (hA : PropsIn w r.1 r.2.1 d.props) :
    Calls Try.prog 41 #[ndV d r, .string (str nm)] w fun e w' => e = .returned (.tuple #[.string (str (lookT (look d.props nm))), .bool (look d.props nm).isSome]) ∧ Below w.heap.size w w' := by
  unfold ndV
  obtain ⟨pa, na, ps⟩ := d
  obtain ⟨ra, rn, rc⟩ := r
  simp only at hm hA ⊢
  have HN := Lib.hid hA.1
  have hrn : rn ≤ 16777216 := by have := hA.1; omega
  have HB := Lib.hid (grows' w (.cells #[.int .i64 pa, .string (str na), .slice ra rn rc] 38))
  have GA := Lib.hid (hA.below HB.out)
  have c2 := box2 w (.int .i64 pa) (.string (str na)) (.slice ra rn rc) 38
  clear hm hA
  generalize str na = NA at HB GA c2 ⊢
  go_enter Try.func41, Try.ntmps41
  go_wp2_with fail
  go_loop [6] (fun i => ∃ k : Nat, k ≤ rn ∧ i = .int .i64 k ∧ Hid (∀ j, j < k → (ps.getD j ([], [])).1 ≠ nm)) (fun i => rn - (RowKit.intOf i).toNat)
  case atStart => exact ⟨0, by omega, rfl, Lib.hid fun j hj => by omega⟩
  case round =>
    obtain ⟨k, hk, rfl, HI⟩ := hrel
    by_cases hlt : k < rn
    · obtain ⟨b, o, rfl, hbs, hc⟩ := GA.out.at (by omega)
      obtain ⟨e1, e2⟩ := hc k hlt
      have HE := Lib.hid (eq_lists (ps.getD k ([], [])).1 nm)
      have HIT : Hid ((ps.getD k ([], [])).1 = nm → look ps nm = some (ps.getD k ([], [])).2) := Lib.hid fun h => look_hit ps nm k (by rw [← HN.out]; exact hlt) HI.out h
      have HNX : Hid ((ps.getD k ([], [])).1 ≠ nm → ∀ j, j < k + 1 → (ps.getD j ([], [])).1 ≠ nm) := Lib.hid fun h j hj => by
        by_cases hjk : j = k
        · rw [hjk]; exact h
        · exact HI.out j (by omega)
      clear hc
      generalize (ps.getD k ([], [])).1 = x at e1 HE HIT HNX
      generalize (ps.getD k ([], [])).2 = v at e2 HIT
      have k1 : (0 : Int) ≤ (k : Int) := by omega
      have k2 : (k : Int) < (rn : Int) := by omega
      by_cases hx : x = nm
      · have t1 : ((str x).toList == (str nm).toList) = true := by rw [HE.out, decide_eq_true hx]
        have HV := Lib.hid (HIT.out hx)
        clear hx HE HIT
        generalize str x = X at e1 t1
        go_wp2_with fail
        go_ret2
        rw [HV.out]
        exact ⟨rfl, HB.out⟩
      · have t1 : ((str x).toList == (str nm).toList) = false := by rw [HE.out, decide_eq_false hx]
        have HI2 := Lib.hid (HNX.out hx)
        clear hx HE HIT
        generalize str x = X at e1 t1
        go_wp2_with fail
        go_round
        case rel => exact ⟨k + 1, by omega, by go_num, HI2⟩
        case measure => simp [RowKit.intOf]; omega
    · obtain rfl : rn = k := by omega
      have HV := Lib.hid (look_none_of HN.out HI.out)
      go_wp2_with fail
      go_ret2
      rw [HV.out]
      exact ⟨rfl, HB.out⟩
set_option maxRecDepth 100000 in
set_option maxHeartbeats 4000000 in
theorem valueOf_any (d : Nd) (r : Sl) (nm : List UInt8) (w : World) (hm : d.props.length ≤ 16777216) (hA : PropsIn w r.1 r.2.1 d.props) :
    Calls Try.prog 40 #[ndV d r, .string (str nm)] w fun e w' => e = .returned (.tuple #[.string (str (lookT (look d.props nm))), .int .i64 (lookE (look d.props nm))]) ∧ Below w.heap.size w w' := by
  unfold ndV
  obtain ⟨pa, na, ps⟩ := d
  obtain ⟨ra, rn, rc⟩ := r
  simp only at hm hA ⊢
  have HN := Lib.hid hA.1
  have hrn : rn ≤ 16777216 := by have := hA.1; omega
  have HB := Lib.hid (grows' w (.cells #[.int .i64 pa, .string (str na), .slice ra rn rc] 38))
  have GA := Lib.hid hA
  have c2 := box2 w (.int .i64 pa) (.string (str na)) (.slice ra rn rc) 38
  clear hm hA
  generalize str na = NA at HB c2 ⊢
  go_enter Try.func40, Try.ntmps40
  go_wp2_with fail
  go_loopw [11] (fun i wr => ∃ k : Nat, k ≤ rn ∧ i = .int .i64 k ∧ Hid (∀ j, j < k → (ps.getD j ([], [])).1 ≠ nm) ∧ Below w.heap.size w wr) (fun i _ => rn - (RowKit.intOf i).toNat)
  case atStart => exact ⟨0, by omega, rfl, Lib.hid fun j hj => by omega, HB.out⟩
  case round =>
    clear c2
    obtain ⟨k, hk, rfl, HI, hbw⟩ := hrel
    have HBW := Lib.hid hbw
    clear hbw
    by_cases hlt : k < rn
    · obtain ⟨b, o, rfl, hbs, hc⟩ := (GA.out.below HBW.out).at (by omega)
      obtain ⟨e1, e2⟩ := hc k hlt
      have HE := Lib.hid (eq_lists (ps.getD k ([], [])).1 nm)
      have HIT : Hid ((ps.getD k ([], [])).1 = nm → look ps nm = some (ps.getD k ([], [])).2) := Lib.hid fun h => look_hit ps nm k (by rw [← HN.out]; exact hlt) HI.out h
      have HNX : Hid ((ps.getD k ([], [])).1 ≠ nm → ∀ j, j < k + 1 → (ps.getD j ([], [])).1 ≠ nm) := Lib.hid fun h j hj => by
        by_cases hjk : j = k
        · rw [hjk]; exact h
        · exact HI.out j (by omega)
      clear hc
      generalize (ps.getD k ([], [])).1 = x at e1 HE HIT HNX
      generalize (ps.getD k ([], [])).2 = v at e2 HIT
      have k1 : (0 : Int) ≤ (k : Int) := by omega
      have k2 : (k : Int) < (rn : Int) := by omega
      by_cases hx : x = nm
      · have t1 : ((str x).toList == (str nm).toList) = true := by rw [HE.out, decide_eq_true hx]
        have HV := Lib.hid (HIT.out hx)
        clear hx HE HIT
        generalize str x = X at e1 t1
        go_wp2_with fail
        go_ret2
        rw [HV.out]
        exact ⟨rfl, HBW.out.alloc HBW.out.size _⟩
      · have t1 : ((str x).toList == (str nm).toList) = false := by rw [HE.out, decide_eq_false hx]
        have HI2 := Lib.hid (HNX.out hx)
        clear hx HE HIT
        generalize str x = X at e1 t1
        go_wp2_with fail
        go_roundw
        case rel => exact ⟨k + 1, by omega, by go_num, HI2, HBW.out.alloc HBW.out.size _⟩
        case measure => simp [RowKit.intOf]; omega
    · obtain rfl : rn = k := by omega
      have HV := Lib.hid (look_none_of HN.out HI.out)
      go_wp2_with fail
      go_ret2
      rw [HV.out]
      exact ⟨rfl, HBW.out⟩
end Go.Proofs.Ytfafhkhamaccfaa.Tr
