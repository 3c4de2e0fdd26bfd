/- Cards in memory, and two lists of cards compared by the document (shared by the stages that have a family's cards). -/
import Derived.Test.YtlnndbhnjhdbfaaDoorChecked
import Derived.Test.YtlnndbhnjhdbfaaDoorRo
namespace Go.Proofs.YtlnndbhnjhdbfaaDoor.Kc
open Go.ChangeShapes Go.WideShapes Go.ChangeAt Go.RowKit Own Ro

theorem str_inj {a b : List UInt8} (h : str a = str b) : a = b := congrArg (fun s => s.data.toList) h
def strs (l : List (List UInt8)) : List Value := l.map fun s => .string (str s)
theorem strs_len (l : List (List UInt8)) : (strs l).length = l.length := by simp [strs]
theorem strs_at (l : List (List UInt8)) (i : Nat) (h : i < l.length) : (strs l)[i]? = some (.string (str (l.getD i []))) := by
  unfold strs
  rw [List.getElem?_map, some_at l [] i h]
  rfl
theorem one_strs (l : List (List UInt8)) : ∀ u ∈ strs l, u.oneCell' = true := by
  intro u hu
  obtain ⟨x, _, rfl⟩ := List.mem_map.1 hu
  rfl
theorem strs_set (l : List (List UInt8)) (j : Nat) (v : List UInt8) : (strs l).set j (.string (str v)) = strs (l.set j v) := by unfold strs; rw [List.map_set]
structure Cd where
  name : List UInt8
  fam : List UInt8
  level : Int
  compat : List (List UInt8)
  score : Int
  quirk : List UInt8
  entry : Int
def cd0 : Cd := ⟨[], [], 0, [], 0, [], 0⟩
def cdHd (a : Cd) : List Value := [.string (str a.name), .string (str a.fam), .int .u8 a.level, .slice none 0 0, .int .i8 a.score, .string (str a.quirk), .int .i16 a.entry]
def KC : Kd Cd where
  k := 7
  p := 3
  q := 1
  E := 29
  F := 9
  hd := cdHd
  inn := fun a => strs a.compat
  len := fun a => a.compat.length
  z := cd0
  hk := fun _ => rfl
  hq := fun a => by rw [strs_len]; omega
  hp := by decide
  ne := by decide
  one := by intro a u hu; simp [cdHd] at hu; rcases hu with rfl | rfl | rfl | rfl | rfl | rfl | rfl <;> rfl
  oneI := fun a u hu => one_strs a.compat u hu
def cells7 (a : Cd) (r : Sl) : Array Value := #[.string (str a.name), .string (str a.fam), .int .u8 a.level, slV r, .int .i8 a.score, .string (str a.quirk), .int .i16 a.entry]
def cardV (a : Cd) (r : Sl) : Value := .agg (cells7 a r)
def MildT (M : Nat) (l : List (List UInt8)) : Prop := l.length ≤ M ∧ ∀ k, (l.getD k []).length ≤ M
def MildC (M : Nat) (a : Cd) : Prop := a.name.length ≤ M ∧ a.fam.length ≤ M ∧ a.quirk.length ≤ M ∧ MildT M a.compat
def MildL (M : Nat) (L : List Cd) : Prop := L.length ≤ M ∧ ∀ k, MildC M (L.getD k cd0)
theorem box7 (w : World) (a : Cd) (r : Sl) (t : TypeId) (j : Nat) : (w.alloc (.cells (cells7 a r) t)).cell? ⟨w.heap.size, j, none⟩ = (cells7 a r)[j]? := by rw [Lib.cell_of_heap (heap_alloc_new w _)]
theorem box7s (w : World) (a : Cd) (r : Sl) (t : TypeId) (j : Nat) (v : Value) (h : (cells7 a r)[j]? = some v) : (w.alloc (.cells (cells7 a r) t)).cell? ⟨w.heap.size, j, none⟩ = some v := (box7 w a r t j).trans h
theorem map_str_at (l : List (List UInt8)) (j : Nat) (h : j < l.length) : (l.map str).getD j ByteArray.empty = str (l.getD j []) := by
  rw [List.getD_eq_getElem?_getD, List.getD_eq_getElem?_getD, List.getElem?_map, List.getElem?_eq_getElem h]
  rfl
theorem map_str_inj {l l' : List (List UInt8)} (h : l.map str = l'.map str) : l = l' := by
  induction l generalizing l' with
  | nil => cases l' with
    | nil => rfl
    | cons y l' => cases h
  | cons x l ih => cases l' with
    | nil => cases h
    | cons y l' =>
      injection h with h1 h2
      rw [str_inj h1, ih h2]
theorem cd_ext (a b : Cd) : a = b ↔ a.name = b.name ∧ a.fam = b.fam ∧ a.level = b.level ∧ a.compat = b.compat ∧ a.score = b.score ∧ a.quirk = b.quirk ∧ a.entry = b.entry := by
  obtain ⟨a1, a2, a3, a4, a5, a6, a7⟩ := a
  obtain ⟨b1, b2, b3, b4, b5, b6, b7⟩ := b
  simp
theorem or7 (a b c d e f g : Bool) : a = false ∨ (a = true ∧ b = false) ∨ (a = true ∧ b = true ∧ c = false) ∨ (a = true ∧ b = true ∧ c = true ∧ d = false) ∨ (a = true ∧ b = true ∧ c = true ∧ d = true ∧ e = false) ∨ (a = true ∧ b = true ∧ c = true ∧ d = true ∧ e = true ∧ f = false) ∨
    (a = true ∧ b = true ∧ c = true ∧ d = true ∧ e = true ∧ f = true ∧ g = false) ∨ (a = true ∧ b = true ∧ c = true ∧ d = true ∧ e = true ∧ f = true ∧ g = true) := by
  cases a <;> cases b <;> cases c <;> cases d <;> cases e <;> cases f <;> cases g <;> simp
theorem int_eqb (a b : Int) : (a == b) = decide (a = b) := by rw [Bool.eq_iff_iff]; simp
theorem int_neb (a b : Int) : (a != b) = !decide (a = b) := by rw [bne, int_eqb]
theorem str_neb (a b : List UInt8) : (!((str a).toList == (str b).toList)) = !decide (a = b) := by rw [eq_lists]
theorem lists_eq (l l' : List (List UInt8)) (n : Nat) (h1 : n = l.length) (h2 : n = l'.length) : l = l' ↔ ∀ i, i < n → l.getD i [] = l'.getD i [] := by
  constructor
  · rintro rfl i _
    rfl
  · intro h
    exact list_ext [] (by omega) fun i hi => h i (by omega)
set_option maxRecDepth 100000 in
set_option maxHeartbeats 16000000 in
theorem refSame_any (a b : Cd) (r s : Sl) (g : Bool) (w : World) (hg : g = true ↔ a = b) (hma : MildC 1099511627776 a) (hmb : MildC 1099511627776 b) (hr : r.2.1 = a.compat.length) (hs : s.2.1 = b.compat.length)
    (hA : CellsIn w 1 r.1 r.2.1 (strs a.compat)) (hB : CellsIn w 1 s.1 s.2.1 (strs b.compat)) :
    Calls Tryd.prog 27 #[cardV a r, cardV b s] w fun e w' => e = .returned (.bool g) ∧ Below w.heap.size w w' := by
  have B1 := Lib.hid (grows' w (.cells (cells7 a r) 29))
  have B2 := Lib.hid (bt B1.out (grows' (w.alloc (.cells (cells7 a r) 29)) (.cells (cells7 b s) 29)))
  have GA := Lib.hid (hA.below B2.out)
  have GB := Lib.hid (hB.below B2.out)
  have HRL := Lib.hid hr
  have HSL := Lib.hid hs
  have hrb : r.2.1 ≤ 1099511627776 := by have := hma.2.2.2.1; omega
  have hsb : s.2.1 ≤ 1099511627776 := by have := hmb.2.2.2.1; omega
  obtain ⟨gc, hgc⟩ := bool_ex (a.compat = b.compat)
  have HGC := Lib.hid hgc
  have HG : Hid (g = (decide (a.name = b.name) && decide (a.fam = b.fam) && decide (a.level = b.level) && decide (a.score = b.score) && decide (a.quirk = b.quirk) && decide (a.entry = b.entry) && gc)) := Lib.hid (by
    rw [Bool.eq_iff_iff, hg, cd_ext]
    simp [and_assoc, hgc]
    intro _ _ _
    exact ⟨fun ⟨x4, x5, x6, x7⟩ => ⟨x5, x6, x7, x4⟩, fun ⟨x5, x6, x7, x4⟩ => ⟨x4, x5, x6, x7⟩⟩)
  have q1 := eq_lists a.name b.name
  have q2 := eq_lists a.fam b.fam
  have q3 := int_neb a.level b.level
  have q5 := int_neb a.score b.score
  have q6 := eq_lists a.quirk b.quirk
  have q7 := int_neb a.entry b.entry
  have C : ∀ (j : Nat) (v : Value), (cells7 a r)[j]? = some v → ((w.alloc (.cells (cells7 a r) 29)).alloc (.cells (cells7 b s) 29)).cell? ⟨w.heap.size, j, none⟩ = some v := fun j v h => by
    rw [(grows' (w.alloc (.cells (cells7 a r) 29)) _).cell (p := ⟨w.heap.size, j, none⟩) (by simp)]
    exact box7s w a r _ j v h
  have D : ∀ (j : Nat) (v : Value), (cells7 b s)[j]? = some v → ((w.alloc (.cells (cells7 a r) 29)).alloc (.cells (cells7 b s) 29)).cell? ⟨w.heap.size + 1, j, none⟩ = some v := fun j v h => by
    have := box7s (w.alloc (.cells (cells7 a r) 29)) b s 29 j v h
    have e : (w.alloc (.cells (cells7 a r) 29)).heap.size = w.heap.size + 1 := by simp
    rw [e] at this
    exact this
  have c0 := C 0 _ rfl
  have c1 := C 1 _ rfl
  have c2 := C 2 _ rfl
  have c3 := C 3 _ rfl
  have c4 := C 4 _ rfl
  have c5 := C 5 _ rfl
  have c6 := C 6 _ rfl
  have d0 := D 0 _ rfl
  have d1 := D 1 _ rfl
  have d2 := D 2 _ rfl
  have d3 := D 3 _ rfl
  have d4 := D 4 _ rfl
  have d5 := D 5 _ rfl
  have d6 := D 6 _ rfl
  clear C D hg hma hmb hr hs hA hB hgc
  unfold cardV
  unfold cells7 at c0 c1 c2 c3 c4 c5 c6 d0 d1 d2 d3 d4 d5 d6 B1 B2 GA GB ⊢
  obtain ⟨nm, fm, lv, cp, sc, qk, en⟩ := a
  obtain ⟨nm2, fm2, lv2, cp2, sc2, qk2, en2⟩ := b
  obtain ⟨ra, rn, rc⟩ := r
  obtain ⟨sa, sn, sd⟩ := s
  simp only [slV] at c0 c1 c2 c3 c4 c5 c6 d0 d1 d2 d3 d4 d5 d6 B1 B2 GA GB HRL HSL HGC HG q1 q2 q3 q5 q6 q7 hrb hsb ⊢
  generalize decide (nm = nm2) = g1 at HG q1
  generalize decide (fm = fm2) = g2 at HG q2
  generalize decide (lv = lv2) = g3 at HG q3
  generalize decide (sc = sc2) = g5 at HG q5
  generalize decide (qk = qk2) = g6 at HG q6
  generalize decide (en = en2) = g7 at HG q7
  generalize str nm = S1 at c0 c1 c2 c3 c4 c5 c6 d0 d1 d2 d3 d4 d5 d6 B1 B2 GA GB q1 ⊢
  generalize str fm = S2 at c0 c1 c2 c3 c4 c5 c6 d0 d1 d2 d3 d4 d5 d6 B1 B2 GA GB q2 ⊢
  generalize str qk = S3 at c0 c1 c2 c3 c4 c5 c6 d0 d1 d2 d3 d4 d5 d6 B1 B2 GA GB q6 ⊢
  generalize str nm2 = T1 at c0 c1 c2 c3 c4 c5 c6 d0 d1 d2 d3 d4 d5 d6 B2 GA GB q1 ⊢
  generalize str fm2 = T2 at c0 c1 c2 c3 c4 c5 c6 d0 d1 d2 d3 d4 d5 d6 B2 GA GB q2 ⊢
  generalize str qk2 = T3 at c0 c1 c2 c3 c4 c5 c6 d0 d1 d2 d3 d4 d5 d6 B2 GA GB q6 ⊢
  clear B1
  rcases or7 g1 g2 g3 g5 g6 g7 true with rfl | ⟨rfl, rfl⟩ | ⟨rfl, rfl, rfl⟩ | ⟨rfl, rfl, rfl, rfl⟩ | ⟨rfl, rfl, rfl, rfl, rfl⟩ | ⟨rfl, rfl, rfl, rfl, rfl, rfl⟩ | ⟨rfl, rfl, rfl, rfl, rfl, rfl, h⟩ | ⟨rfl, rfl, rfl, rfl, rfl, rfl, h⟩
  case inr.inr.inr.inr.inr.inr.inl => cases h
  case inr.inr.inr.inr.inr.inr.inr =>
    clear h
    have HGT : Hid (g = gc) := Lib.hid (by rw [HG.out]; rfl)
    by_cases hl : rn = sn
    case neg =>
      have t4 : ((rn : Int) != (sn : Int)) = true := by rw [int_neb, decide_eq_false (by omega)]; rfl
      have HF : Hid (g = false) := Lib.hid (by rw [HGT.out]; exact Bool.eq_false_iff.2 fun e => hl (by rw [HRL.out, HSL.out, HGC.out.1 e]))
      go_enter Tryd.func27, Tryd.ntmps27
      go_wp2_with fail
      go_ret
      rw [HF.out]
      exact ⟨rfl, B2.out⟩
    subst hl
    have t4 : ((rn : Int) != (rn : Int)) = false := by rw [int_neb, decide_eq_true rfl]; rfl
    have HLE := Lib.hid (lists_eq cp cp2 rn HRL.out HSL.out)
    go_enter Tryd.func27, Tryd.ntmps27
    go_wp2_with fail
    clear c0 c1 c2 c4 c5 c6 d0 d1 d2 d4 d5 d6 q1 q2 q3 q5 q6 q7 t4
    generalize ((w.alloc (.cells #[.string S1, .string S2, .int .u8 lv, .slice ra rn rc, .int .i8 sc, .string S3, .int .i16 en] 29)).alloc (.cells #[.string T1, .string T2, .int .u8 lv2, .slice sa rn sd, .int .i8 sc2, .string T3, .int .i16 en2] 29)) = y at c3 d3 B2 GA GB ⊢
    go_loopw [5] (fun v5 wr => ∃ (k q : Nat), k ≤ rn ∧ v5 = .int .i64 k ∧ wr = y.drewN q ∧ Hid (∀ i, i < k → cp.getD i [] = cp2.getD i [])) (fun v5 _ => rn - (RowKit.intOf v5).toNat)
    case atStart => exact ⟨0, 0, by omega, rfl, rfl, Lib.hid fun i hi => by omega⟩
    case round =>
      obtain ⟨k, q, hk, rfl, rfl, HK⟩ := hrel
      by_cases hlt : k < rn
      · obtain ⟨b0, o0, rfl, hbs, hc⟩ := GA.out.at (by omega)
        obtain ⟨b1, o1, rfl, hbs1, hd⟩ := GB.out.at (by omega)
        have e0 := hc k _ (strs_at cp k (by rw [← HRL.out]; exact hlt))
        have e1 := hd k _ (strs_at cp2 k (by rw [← HSL.out]; exact hlt))
        have qs := eq_lists (cp.getD k []) (cp2.getD k [])
        have HX : Hid (decide (cp.getD k [] = cp2.getD k []) = true ↔ cp.getD k [] = cp2.getD k []) := Lib.hid decide_eq_true_iff
        generalize decide (cp.getD k [] = cp2.getD k []) = gx at qs HX
        have k1 : (0 : Int) ≤ (k : Int) := by omega
        have k2 : (k : Int) < (rn : Int) := by omega
        clear hc hd
        generalize str (cp.getD k []) = X1 at e0 qs
        generalize str (cp2.getD k []) = X2 at e1 qs
        cases gx with
        | false =>
          have HF : Hid (g = false) := Lib.hid (by rw [HGT.out]; exact Bool.eq_false_iff.2 fun e => by cases HX.out.2 (HLE.out.1 (HGC.out.1 e) k hlt))
          go_wp2_with fail
          go_region
          all_goals
            go_wp2_with fail
            go_ret
            rw [HF.out]
            exact ⟨rfl, below_dr B2.out _⟩
        | true =>
          go_wp2_with fail
          go_region
          all_goals
            go_wp2_with fail
            go_roundw
            case rel => exact ⟨k + 1, _, by omega, by go_num, rfl, Lib.hid fun i hi => by
              by_cases hik : i = k
              · rw [hik]; exact HX.out.1 (by simp)
              · exact HK.out i (by omega)⟩
            case measure => simp [RowKit.intOf]; omega
      · obtain rfl : rn = k := by omega
        have HT : Hid (g = true) := Lib.hid (by rw [HGT.out]; exact HGC.out.2 (HLE.out.2 HK.out))
        go_wp2_with fail
        go_ret
        rw [HT.out]
        exact ⟨rfl, below_dr B2.out _⟩
  all_goals
    go_enter Tryd.func27, Tryd.ntmps27
    go_wp2_with fail
    go_ret
    rw [HG.out]
    exact ⟨rfl, B2.out⟩
section
variable {P : Program} {md : Region.Mode} {ops : Array Oper} {Q : Exit → Act → World → Prop} {S : World → Prop}
theorem skipH {i : Nat} {oi : Oper} {dst : Option Nat} {fuel : Nat} {listed : Array Bool} {a : Act} {w : World} (hi : ops[i]? = some oi) (hd : oi.dst = dst)
    (hs : Region.noSelect ops = true) (hf : Region.free md ops listed i = true) (hr : (Region.ready md ops listed).contains i = true)
    (hQ : ∀ c a w, Q (.panic c) (a.put dst undef) w → Q (.panic c) a w) (hw : Region.wanted oi (yielded ops a.tmps) = false) (hS : S w)
    (h : wpAnyH P md ops Q S fuel (listed.setIfInBounds i true) (a.put dst undef) w) : wpAnyH P md ops Q S (fuel + 1) listed a w := by
  subst hd
  exact wpAnyH_take hi hs hf hr hQ (.inr ⟨hw, rfl⟩) hS h
theorem takeH {i : Nat} {oi : Oper} {v : Value} {dst : Option Nat} {fuel : Nat} {listed : Array Bool} {a : Act} {w : World} (hi : ops[i]? = some oi) (hd : oi.dst = dst)
    (hs : Region.noSelect ops = true) (hf : Region.free md ops listed i = true) (hr : (Region.ready md ops listed).contains i = true)
    (hQ : ∀ c a w, Q (.panic c) (a.put dst v) w → Q (.panic c) a w) (hw : Region.wanted oi (yielded ops a.tmps) = true) (hy : ∀ w, S w → (execOp a.eval oi).run P w = .ok (.value v) w) (hS : S w)
    (h : wpAnyH P md ops Q S fuel (listed.setIfInBounds i true) (a.put dst v) w) : wpAnyH P md ops Q S (fuel + 1) listed a w := by
  subst hd
  exact wpAnyH_take hi hs hf hr hQ (.inl ⟨hw, hy⟩) hS h
end
theorem info_card : (Tryd.prog.info? 29).map (fun i => (i.zero, i.size, i.bytes)) = some (some (.agg #[.string ⟨#[]⟩, .string ⟨#[]⟩, .int .u8 0, .slice none 0 0, .int .i8 0, .string ⟨#[]⟩, .int .i16 0]), 7, 96) := by kernel_rfl
theorem info_str : (Tryd.prog.info? 9).map (fun i => (i.zero, i.size, i.bytes)) = some (some (.string ⟨#[]⟩), 1, 16) := by kernel_rfl
/-- A card in memory of the call's own. -/
theorem cards_eq (L L2 : List Cd) (h : L.length = L2.length) : L = L2 ↔ ∀ i, i < L.length → L.getD i cd0 = L2.getD i cd0 := by
  constructor
  · rintro rfl i _
    rfl
  · exact fun h2 => list_ext cd0 h h2
set_option maxRecDepth 100000 in
set_option maxHeartbeats 8000000 in
theorem sameAll_any (A B : Option Addr) (c n d m : Nat) (L L2 : List Cd) (R R2 : List Sl) (g : Bool) (w : World) (hg : g = true ↔ L = L2) (hm : MildL 1099511627776 L) (hm2 : MildL 1099511627776 L2) (hA : Ro.RowsIn KC w A n L R) (hB : Ro.RowsIn KC w B m L2 R2) :
    Calls Tryd.prog 18 #[.slice A n c, .slice B m d] w fun e w' => e = .returned (.bool g) ∧ Below w.heap.size w w' := by
  have HN := Lib.hid hA.1
  have HN2 := Lib.hid hB.1
  have hnb : n ≤ 1099511627776 := by have := hm.1; rw [hA.1]; exact this
  have hmb : m ≤ 1099511627776 := by have := hm2.1; rw [hB.1]; exact this
  have GA := Lib.hid hA
  have GB := Lib.hid hB
  have HM := Lib.hid hm
  have HM2 := Lib.hid hm2
  have HG := Lib.hid hg
  clear hg hm hm2 hA hB
  by_cases hl : n = m
  case neg =>
    have t4 : ((n : Int) != (m : Int)) = true := by rw [int_neb, decide_eq_false (by omega)]; rfl
    have HF : Hid (g = false) := Lib.hid (Bool.eq_false_iff.2 fun e => hl (by rw [HN.out, HN2.out, HG.out.1 e]))
    go_enter Tryd.func18, Tryd.ntmps18
    go_wp2_with fail
    go_ret
    rw [HF.out]
    exact ⟨rfl, Below.refl _ _⟩
  subst hl
  have t4 : ((n : Int) != (n : Int)) = false := by rw [int_neb, decide_eq_true rfl]; rfl
  have HLE : Hid (L = L2 ↔ ∀ i, i < n → L.getD i cd0 = L2.getD i cd0) := Lib.hid (by rw [HN.out]; exact cards_eq L L2 (by rw [← HN.out, ← HN2.out]))
  go_enter Tryd.func18, Tryd.ntmps18
  go_wp2_with fail
  go_loopw [5] (fun v5 wr => ∃ (k : Nat), k ≤ n ∧ v5 = .int .i64 k ∧ Below w.heap.size w wr ∧ Hid (∀ i, i < k → L.getD i cd0 = L2.getD i cd0)) (fun v5 _ => n - (RowKit.intOf v5).toNat)
  case atStart => exact ⟨0, by omega, rfl, Below.refl _ _, Lib.hid fun i hi => by omega⟩
  case round =>
    obtain ⟨k, hk, rfl, hbw, HK⟩ := hrel
    have HB := Lib.hid hbw
    clear hbw
    by_cases hlt : k < n
    · obtain ⟨b0, o0, rfl, hbs, hc, hlen, hin⟩ := (GA.out.below HB.out).at hlt
      obtain ⟨b1, o1, rfl, hbs1, hd, hlen1, hin1⟩ := (GB.out.below HB.out).at hlt
      have e0 := hc 0 _ rfl
      replace e0 : wr.cell? ⟨b0, o0 + k * 7, none⟩ = some (.string (str (L.getD k cd0).name)) := e0
      have e1 := hc 1 _ rfl
      replace e1 : wr.cell? ⟨b0, o0 + k * 7 + 1, none⟩ = some (.string (str (L.getD k cd0).fam)) := e1
      have e2 := hc 2 _ rfl
      replace e2 : wr.cell? ⟨b0, o0 + k * 7 + 2, none⟩ = some (.int .u8 (L.getD k cd0).level) := e2
      have e3 := hc 3 _ rfl
      replace e3 : wr.cell? ⟨b0, o0 + k * 7 + 3, none⟩ = some (slV (R.getD k sl0)) := e3
      have e4 := hc 4 _ rfl
      replace e4 : wr.cell? ⟨b0, o0 + k * 7 + 4, none⟩ = some (.int .i8 (L.getD k cd0).score) := e4
      have e5 := hc 5 _ rfl
      replace e5 : wr.cell? ⟨b0, o0 + k * 7 + 5, none⟩ = some (.string (str (L.getD k cd0).quirk)) := e5
      have e6 := hc 6 _ rfl
      replace e6 : wr.cell? ⟨b0, o0 + k * 7 + 6, none⟩ = some (.int .i16 (L.getD k cd0).entry) := e6
      have f0 := hd 0 _ rfl
      replace f0 : wr.cell? ⟨b1, o1 + k * 7, none⟩ = some (.string (str (L2.getD k cd0).name)) := f0
      have f1 := hd 1 _ rfl
      replace f1 : wr.cell? ⟨b1, o1 + k * 7 + 1, none⟩ = some (.string (str (L2.getD k cd0).fam)) := f1
      have f2 := hd 2 _ rfl
      replace f2 : wr.cell? ⟨b1, o1 + k * 7 + 2, none⟩ = some (.int .u8 (L2.getD k cd0).level) := f2
      have f3 := hd 3 _ rfl
      replace f3 : wr.cell? ⟨b1, o1 + k * 7 + 3, none⟩ = some (slV (R2.getD k sl0)) := f3
      have f4 := hd 4 _ rfl
      replace f4 : wr.cell? ⟨b1, o1 + k * 7 + 4, none⟩ = some (.int .i8 (L2.getD k cd0).score) := f4
      have f5 := hd 5 _ rfl
      replace f5 : wr.cell? ⟨b1, o1 + k * 7 + 5, none⟩ = some (.string (str (L2.getD k cd0).quirk)) := f5
      have f6 := hd 6 _ rfl
      replace f6 : wr.cell? ⟨b1, o1 + k * 7 + 6, none⟩ = some (.int .i16 (L2.getD k cd0).entry) := f6
      have k1 : (0 : Int) ≤ (k : Int) := by omega
      have k2 : (k : Int) < (n : Int) := by omega
      obtain ⟨gk, hgk⟩ := bool_ex (L.getD k cd0 = L2.getD k cd0)
      have HS := Lib.hid fun (W : World) (hW : Below wr.heap.size wr W) => refSame_any (L.getD k cd0) (L2.getD k cd0) (R.getD k sl0) (R2.getD k sl0) gk W hgk (HM.out.2 k) (HM2.out.2 k) hlen hlen1 (hin.below hW) (hin1.below hW)
      have HGK := Lib.hid hgk
      have HNE : Hid (gk = false → g = false) := Lib.hid fun h => Bool.eq_false_iff.2 fun e => by rw [hgk.2 (HLE.out.1 (HG.out.1 e) k hlt)] at h; cases h
      clear hc hd hlen hlen1 hin hin1 hgk t4
      have HGK2 : Hid (gk = true → L.getD k cd0 = L2.getD k cd0) := Lib.hid HGK.out.1
      clear HGK
      generalize hdk : L.getD k cd0 = dk at e0 e1 e2 e3 e4 e5 e6 HS
      generalize hdk2 : L2.getD k cd0 = dk2 at f0 f1 f2 f3 f4 f5 f6 HS
      generalize R.getD k sl0 = r at e3 HS
      generalize R2.getD k sl0 = r2 at f3 HS
      clear hdk hdk2
      obtain ⟨nm, fm, lv, cp, sc, qk, en⟩ := dk
      obtain ⟨nm2, fm2, lv2, cp2, sk2, qk2, en2⟩ := dk2
      obtain ⟨ra, rn, rc⟩ := r
      obtain ⟨sa, sn, sc2⟩ := r2
      simp only [slV, cardV, cells7] at e0 e1 e2 e3 e4 e5 e6 f0 f1 f2 f3 f4 f5 f6 HS
      generalize str nm = S1 at e0 HS
      generalize str fm = S2 at e1 HS
      generalize str qk = S3 at e5 HS
      generalize str nm2 = T1 at f0 HS
      generalize str fm2 = T2 at f1 HS
      generalize str qk2 = T3 at f5 HS
      have HEK : Hid (∀ W : World, Below wr.heap.size wr W → (W.cell? ⟨b0, o0 + k * 7, none⟩ = some (.string S1) ∧ W.cell? ⟨b0, o0 + k * 7 + 1, none⟩ = some (.string S2) ∧ W.cell? ⟨b0, o0 + k * 7 + 2, none⟩ = some (.int .u8 lv) ∧ W.cell? ⟨b0, o0 + k * 7 + 3, none⟩ = some (.slice ra rn rc) ∧ W.cell? ⟨b0, o0 + k * 7 + 4, none⟩ = some (.int .i8 sc) ∧ W.cell? ⟨b0, o0 + k * 7 + 5, none⟩ = some (.string S3) ∧ W.cell? ⟨b0, o0 + k * 7 + 6, none⟩ = some (.int .i16 en) ∧ W.cell? ⟨b1, o1 + k * 7, none⟩ = some (.string T1) ∧ W.cell? ⟨b1, o1 + k * 7 + 1, none⟩ = some (.string T2) ∧ W.cell? ⟨b1, o1 + k * 7 + 2, none⟩ = some (.int .u8 lv2) ∧ W.cell? ⟨b1, o1 + k * 7 + 3, none⟩ = some (.slice sa sn sc2) ∧ W.cell? ⟨b1, o1 + k * 7 + 4, none⟩ = some (.int .i8 sk2) ∧ W.cell? ⟨b1, o1 + k * 7 + 5, none⟩ = some (.string T3) ∧ W.cell? ⟨b1, o1 + k * 7 + 6, none⟩ = some (.int .i16 en2)) ∧ Below wr.heap.size wr W) := Lib.hid fun W hW => ⟨⟨(hW.cell (p := ⟨b0, o0 + k * 7, none⟩) hbs).trans e0, (hW.cell (p := ⟨b0, o0 + k * 7 + 1, none⟩) hbs).trans e1, (hW.cell (p := ⟨b0, o0 + k * 7 + 2, none⟩) hbs).trans e2, (hW.cell (p := ⟨b0, o0 + k * 7 + 3, none⟩) hbs).trans e3, (hW.cell (p := ⟨b0, o0 + k * 7 + 4, none⟩) hbs).trans e4, (hW.cell (p := ⟨b0, o0 + k * 7 + 5, none⟩) hbs).trans e5, (hW.cell (p := ⟨b0, o0 + k * 7 + 6, none⟩) hbs).trans e6, (hW.cell (p := ⟨b1, o1 + k * 7, none⟩) hbs1).trans f0, (hW.cell (p := ⟨b1, o1 + k * 7 + 1, none⟩) hbs1).trans f1, (hW.cell (p := ⟨b1, o1 + k * 7 + 2, none⟩) hbs1).trans f2, (hW.cell (p := ⟨b1, o1 + k * 7 + 3, none⟩) hbs1).trans f3, (hW.cell (p := ⟨b1, o1 + k * 7 + 4, none⟩) hbs1).trans f4, (hW.cell (p := ⟨b1, o1 + k * 7 + 5, none⟩) hbs1).trans f5, (hW.cell (p := ⟨b1, o1 + k * 7 + 6, none⟩) hbs1).trans f6⟩, hW⟩
      clear e0 e1 e2 e3 e4 e5 e6 f0 f1 f2 f3 f4 f5 f6
      go_wp2_with fail
      refine wp_region_noPanic ?_
      refine wp_region_held_drew (S := fun w' => (w'.cell? ⟨b0, o0 + k * 7, none⟩ = some (.string S1) ∧ w'.cell? ⟨b0, o0 + k * 7 + 1, none⟩ = some (.string S2) ∧ w'.cell? ⟨b0, o0 + k * 7 + 2, none⟩ = some (.int .u8 lv) ∧ w'.cell? ⟨b0, o0 + k * 7 + 3, none⟩ = some (.slice ra rn rc) ∧ w'.cell? ⟨b0, o0 + k * 7 + 4, none⟩ = some (.int .i8 sc) ∧ w'.cell? ⟨b0, o0 + k * 7 + 5, none⟩ = some (.string S3) ∧ w'.cell? ⟨b0, o0 + k * 7 + 6, none⟩ = some (.int .i16 en) ∧ w'.cell? ⟨b1, o1 + k * 7, none⟩ = some (.string T1) ∧ w'.cell? ⟨b1, o1 + k * 7 + 1, none⟩ = some (.string T2) ∧ w'.cell? ⟨b1, o1 + k * 7 + 2, none⟩ = some (.int .u8 lv2) ∧ w'.cell? ⟨b1, o1 + k * 7 + 3, none⟩ = some (.slice sa sn sc2) ∧ w'.cell? ⟨b1, o1 + k * 7 + 4, none⟩ = some (.int .i8 sk2) ∧ w'.cell? ⟨b1, o1 + k * 7 + 5, none⟩ = some (.string T3) ∧ w'.cell? ⟨b1, o1 + k * 7 + 6, none⟩ = some (.int .i16 en2)) ∧ Below wr.heap.size wr w') (by kernel_rfl) (HEK.out _ (below_dr (Below.refl _ _) 1)) (fun hHeld => ?_)
      first | (refine skipH (i := 0) (dst := some 17) rfl rfl (by kernel_rfl) (by kernel_rfl) (by kernel_rfl) (fun _ _ _ h => h) (by rfl) hHeld ?_) | (refine' takeH (i := 0) (dst := some 17) (v := _) rfl rfl (by kernel_rfl) (by kernel_rfl) (by kernel_rfl) (fun _ _ _ h => h) (by rfl) ?hy hHeld ?_; case hy => (intro w hSw; clear hSw; (first | done | go_simp); try with_reducible rfl)) | fail
      try simp only [Act.put, List.setIfInBounds_toArray, List.set_cons_zero, List.set_cons_succ]
      first | (refine skipH (i := 1) (dst := some 18) rfl rfl (by kernel_rfl) (by kernel_rfl) (by kernel_rfl) (fun _ _ _ h => h) (by rfl) hHeld ?_) | (refine' takeH (i := 1) (dst := some 18) (v := _) rfl rfl (by kernel_rfl) (by kernel_rfl) (by kernel_rfl) (fun _ _ _ h => h) (by rfl) ?hy hHeld ?_; case hy => (intro w hSw; clear hSw; (first | done | go_simp); try with_reducible rfl)) | fail
      try simp only [Act.put, List.setIfInBounds_toArray, List.set_cons_zero, List.set_cons_succ]
      first | (refine skipH (i := 2) (dst := some 19) rfl rfl (by kernel_rfl) (by kernel_rfl) (by kernel_rfl) (fun _ _ _ h => h) (by rfl) hHeld ?_) | (refine' takeH (i := 2) (dst := some 19) (v := _) rfl rfl (by kernel_rfl) (by kernel_rfl) (by kernel_rfl) (fun _ _ _ h => h) (by rfl) ?hy hHeld ?_; case hy => (intro w hSw; clear hSw; (first | done | go_simp); try with_reducible rfl)) | fail
      try simp only [Act.put, List.setIfInBounds_toArray, List.set_cons_zero, List.set_cons_succ]
      first | (refine skipH (i := 3) (dst := some 20) rfl rfl (by kernel_rfl) (by kernel_rfl) (by kernel_rfl) (fun _ _ _ h => h) (by rfl) hHeld ?_) | (refine' takeH (i := 3) (dst := some 20) (v := _) rfl rfl (by kernel_rfl) (by kernel_rfl) (by kernel_rfl) (fun _ _ _ h => h) (by rfl) ?hy hHeld ?_; case hy => (intro w hSw; obtain ⟨⟨_, _, _, _, _, _, _, _, _, _, _, _, _, _⟩, _⟩ := hSw; (first | done | go_simp); try with_reducible rfl)) | fail
      try simp only [Act.put, List.setIfInBounds_toArray, List.set_cons_zero, List.set_cons_succ]
      first | (refine skipH (i := 4) (dst := some 21) rfl rfl (by kernel_rfl) (by kernel_rfl) (by kernel_rfl) (fun _ _ _ h => h) (by rfl) hHeld ?_) | (refine' takeH (i := 4) (dst := some 21) (v := _) rfl rfl (by kernel_rfl) (by kernel_rfl) (by kernel_rfl) (fun _ _ _ h => h) (by rfl) ?hy hHeld ?_; case hy => (intro w hSw; clear hSw; (first | done | go_simp); try with_reducible rfl)) | fail
      try simp only [Act.put, List.setIfInBounds_toArray, List.set_cons_zero, List.set_cons_succ]
      first | (refine skipH (i := 5) (dst := some 22) rfl rfl (by kernel_rfl) (by kernel_rfl) (by kernel_rfl) (fun _ _ _ h => h) (by rfl) hHeld ?_) | (refine' takeH (i := 5) (dst := some 22) (v := _) rfl rfl (by kernel_rfl) (by kernel_rfl) (by kernel_rfl) (fun _ _ _ h => h) (by rfl) ?hy hHeld ?_; case hy => (intro w hSw; clear hSw; (first | done | go_simp); try with_reducible rfl)) | fail
      try simp only [Act.put, List.setIfInBounds_toArray, List.set_cons_zero, List.set_cons_succ]
      first | (refine skipH (i := 6) (dst := some 23) rfl rfl (by kernel_rfl) (by kernel_rfl) (by kernel_rfl) (fun _ _ _ h => h) (by rfl) hHeld ?_) | (refine' takeH (i := 6) (dst := some 23) (v := _) rfl rfl (by kernel_rfl) (by kernel_rfl) (by kernel_rfl) (fun _ _ _ h => h) (by rfl) ?hy hHeld ?_; case hy => (intro w hSw; clear hSw; (first | done | go_simp); try with_reducible rfl)) | fail
      try simp only [Act.put, List.setIfInBounds_toArray, List.set_cons_zero, List.set_cons_succ]
      first | (refine skipH (i := 7) (dst := some 24) rfl rfl (by kernel_rfl) (by kernel_rfl) (by kernel_rfl) (fun _ _ _ h => h) (by rfl) hHeld ?_) | (refine' takeH (i := 7) (dst := some 24) (v := _) rfl rfl (by kernel_rfl) (by kernel_rfl) (by kernel_rfl) (fun _ _ _ h => h) (by rfl) ?hy hHeld ?_; case hy => (intro w hSw; obtain ⟨⟨_, _, _, _, _, _, _, _, _, _, _, _, _, _⟩, _⟩ := hSw; (first | done | go_simp); try with_reducible rfl)) | fail
      try simp only [Act.put, List.setIfInBounds_toArray, List.set_cons_zero, List.set_cons_succ]
      refine wpAnyH_ready (rs := [8]) (by kernel_rfl) (by simp) ?_
      refine AllReadyH.cons (i := 8) (o := ⟨some 25, .call _, _, _, _, _⟩) rfl (fun K hK => ?_) AllReadyH.nil
      go_simp
      refine (HS.out _ hHeld.2).mono ?_
      rintro e w5 ⟨rfl, b5⟩
      have hH := HEK.out _ (bt hHeld.2 b5)
      clear b5
      refine hK.out _ _ hH (fun _ => ?_)
      clear hK K hHeld
      have hHeld := hH
      clear hH
      try simp only [Act.put, List.setIfInBounds_toArray, List.set_cons_zero, List.set_cons_succ]
      first | (refine skipH (i := 9) (dst := some 26) rfl rfl (by kernel_rfl) (by kernel_rfl) (by kernel_rfl) (fun _ _ _ h => h) (by rfl) hHeld ?_) | (refine' takeH (i := 9) (dst := some 26) (v := _) rfl rfl (by kernel_rfl) (by kernel_rfl) (by kernel_rfl) (fun _ _ _ h => h) (by rfl) ?hy hHeld ?_; case hy => (intro w hSw; clear hSw; (first | done | go_simp); try with_reducible rfl)) | fail
      try simp only [Act.put, List.setIfInBounds_toArray, List.set_cons_zero, List.set_cons_succ]
      refine wpAnyH_done (by kernel_rfl) (NoPanic.normal ?_) _
      have B5 := Lib.hid (bt HB.out hHeld.2)
      clear hHeld
      cases gk with
      | false =>
        have HF : Hid (g = false) := Lib.hid (HNE.out rfl)
        go_wp2_with fail
        go_ret
        rw [HF.out]
        exact ⟨rfl, B5.out⟩
      | true =>
        have HQ := Lib.hid (HGK2.out rfl)
        go_wp2_with fail
        go_roundw
        case rel => exact ⟨k + 1, by omega, by go_num, B5.out, Lib.hid fun i hi => by
          by_cases hik : i = k
          · rw [hik]; exact HQ.out
          · exact HK.out i (by omega)⟩
        case measure => simp [RowKit.intOf]; omega
    · obtain rfl : n = k := by omega
      have HT : Hid (g = true) := Lib.hid (HG.out.2 (HLE.out.2 HK.out))
      go_wp2_with fail
      go_ret
      rw [HT.out]
      exact ⟨rfl, HB.out⟩
end Go.Proofs.YtlnndbhnjhdbfaaDoor.Kc
