/- Nodes and props in memory; the document's has, above, props. -/
import Derived.Test.YtfafhkhamaccfaaTrM
import Derived.Test.YtfafhkhamaccfaaNm3
import Derived.Test.YtfafhkhamaccfaaOwn
import Derived.Lib.OthersKept
import Derived.WalkKit
import Derived.ProofKit
import Derived.WalkLawsBesides
import Derived.WalkSpells
import Derived.Outline
import Derived.Lib.Hide
import Derived.Lib.Strings
import Derived.Laws.OwnMore
import Derived.Deep.QuietTactic
import Derived.Deep.RegionHeld3
import Derived.BigQuiet
import Derived.BigCall
import Derived.BigGuard
namespace Go.Proofs.Ytfafhkhamaccfaa.Tr
open Go.ChangeShapes Go.WideShapes Go.ChangeAt Go.RowKit Own wordsNames

def str (l : List UInt8) : ByteArray := ⟨l.toArray⟩
theorem str_list (l : List UInt8) : (str l).data.toList = l := rfl
theorem str_size (l : List UInt8) : (str l).size = l.length := rfl
theorem bytes_ext {a b : ByteArray} (h : a.data.toList = b.data.toList) : a = b := by
  obtain ⟨⟨l⟩⟩ := a
  obtain ⟨⟨m⟩⟩ := b
  simp at h
  rw [h]
theorem eq_lists (a b : List UInt8) : ((str a).toList == (str b).toList) = decide (a = b) := by
  rw [Lib.toList_data, Lib.toList_data, str_list, str_list]
  by_cases h : a = b
  · rw [decide_eq_true h, beq_iff_eq]; exact h
  · rw [decide_eq_false h, beq_eq_false_iff_ne]; exact h
/-- Props that can be read. -/
def PropsIn (w : World) (A : Option Addr) (n : Nat) (ps : List (List UInt8 × List UInt8)) : Prop :=
  n = ps.length ∧ (n = 0 ∨ ∃ b o, A = some ⟨b, o, none⟩ ∧ b < w.heap.size ∧ ∀ i, i < n → w.cell? ⟨b, o + i * 2, none⟩ = some (.string (str (ps.getD i ([], [])).1)) ∧ w.cell? ⟨b, o + i * 2 + 1, none⟩ = some (.string (str (ps.getD i ([], [])).2)))
theorem PropsIn.below {w w' : World} {A : Option Addr} {n : Nat} {ps : List (List UInt8 × List UInt8)} (h : PropsIn w A n ps) (hb : Below w.heap.size w w') : PropsIn w' A n ps := by
  refine ⟨h.1, ?_⟩
  rcases h.2 with h0 | ⟨b, o, rfl, hlt, hc⟩
  · exact .inl h0
  · refine .inr ⟨b, o, rfl, Nat.lt_of_lt_of_le hlt hb.size, fun i hi => ?_⟩
    rw [hb.cell (p := ⟨b, o + i * 2, none⟩) hlt, hb.cell (p := ⟨b, o + i * 2 + 1, none⟩) hlt]
    exact hc i hi
/-- A slice value's parts. -/
abbrev Sl := Option Addr × Nat × Nat
def sl0 : Sl := (none, 0, 0)
/-- Nodes that can be read. R: the slices of their props. -/
def NodesIn (w : World) (A : Option Addr) (n : Nat) (L : List Nd) (R : List Sl) : Prop :=
  n = L.length ∧ n = R.length ∧ (n = 0 ∨ ∃ b o, A = some ⟨b, o, none⟩ ∧ b < w.heap.size ∧ ∀ i, i < n → (w.cell? ⟨b, o + i * 3, none⟩ = some (.int .i64 (L.getD i nd0).parent) ∧ w.cell? ⟨b, o + i * 3 + 1, none⟩ = some (.string (str (L.getD i nd0).name)) ∧
    w.cell? ⟨b, o + i * 3 + 2, none⟩ = some (.slice (R.getD i sl0).1 (R.getD i sl0).2.1 (R.getD i sl0).2.2)) ∧ PropsIn w (R.getD i sl0).1 (R.getD i sl0).2.1 (L.getD i nd0).props)
theorem NodesIn.below {w w' : World} {A : Option Addr} {n : Nat} {L : List Nd} {R : List Sl} (h : NodesIn w A n L R) (hb : Below w.heap.size w w') : NodesIn w' A n L R := by
  refine ⟨h.1, h.2.1, ?_⟩
  rcases h.2.2 with h0 | ⟨b, o, rfl, hlt, hc⟩
  · exact .inl h0
  · refine .inr ⟨b, o, rfl, Nat.lt_of_lt_of_le hlt hb.size, fun i hi => ?_⟩
    rw [hb.cell (p := ⟨b, o + i * 3, none⟩) hlt, hb.cell (p := ⟨b, o + i * 3 + 1, none⟩) hlt, hb.cell (p := ⟨b, o + i * 3 + 2, none⟩) hlt]
    exact ⟨(hc i hi).1, (hc i hi).2.below hb⟩
theorem NodesIn.at {w : World} {A : Option Addr} {n : Nat} {L : List Nd} {R : List Sl} (h : NodesIn w A n L R) (hn : 0 < n) : ∃ b o, A = some ⟨b, o, none⟩ ∧ b < w.heap.size ∧ ∀ i, i < n → (w.cell? ⟨b, o + i * 3, none⟩ = some (.int .i64 (L.getD i nd0).parent) ∧ w.cell? ⟨b, o + i * 3 + 1, none⟩ = some (.string (str (L.getD i nd0).name)) ∧
    w.cell? ⟨b, o + i * 3 + 2, none⟩ = some (.slice (R.getD i sl0).1 (R.getD i sl0).2.1 (R.getD i sl0).2.2)) ∧ PropsIn w (R.getD i sl0).1 (R.getD i sl0).2.1 (L.getD i nd0).props := by
  rcases h.2.2 with h0 | h0
  · omega
  · exact h0
theorem PropsIn.at {w : World} {A : Option Addr} {n : Nat} {ps : List (List UInt8 × List UInt8)} (h : PropsIn w A n ps) (hn : 0 < n) : ∃ b o, A = some ⟨b, o, none⟩ ∧ b < w.heap.size ∧ ∀ i, i < n → w.cell? ⟨b, o + i * 2, none⟩ = some (.string (str (ps.getD i ([], [])).1)) ∧ w.cell? ⟨b, o + i * 2 + 1, none⟩ = some (.string (str (ps.getD i ([], [])).2)) := by
  rcases h.2 with h0 | h0
  · omega
  · exact h0
theorem below_dr {B : Nat} {a w : World} (h : Below B a w) (q : Nat) : Below B a (w.drewN q) := ⟨h.os, h.tape, h.output, h.size, h.block⟩
theorem bt {y W w9 : World} (h : Below y.heap.size y W) (h9 : Below W.heap.size W w9) : Below y.heap.size y w9 := h.trans (h9.mono h.size)
theorem grows' (w : World) (o : Obj) : Below w.heap.size w (w.alloc o) := (Below.refl _ _).alloc (Nat.le_refl _) _
theorem src_new (w : World) (v : Value) (t : TypeId) : Src (w.alloc (.cells #[v] t)) (some ⟨w.heap.size, 0, none⟩) 1 1 [v] :=
  .inr ⟨_, rfl, rfl, fun j u hu => by
    match j, hu with
    | 0, hu => simp at hu; subst hu; simp [Addr.add]⟩
theorem below_grown' {B : Nat} {a w w' : World} {v : Value} {base : Nat} {E : TypeId} {n k : Nat} {xs : List Value} {o : Obj} (hb : Below B a w) (hB : B ≤ w.heap.size) (ho : w.ownsRow base E k v n xs) (hbase : B ≤ base) (hg : (w.alloc o).grownBy w' v.ownBlock) : Below B a w' := by
  refine (hb.alloc hB o).grown hg (by simp; omega) fun k hk => ?_
  rcases ho.2 with ⟨rfl, _⟩ | ⟨g, cap, cur, rfl, hgb, _⟩
  · simp [Value.ownBlock] at hk
  · simp [Value.ownBlock] at hk
    omega
theorem src_get' {w : World} {A : Option Addr} {m c : Nat} {xs : List Value} (h : Src w A m c xs) (hm : 0 < m) : ∃ ad, A = some ad ∧ ∀ i u, xs[i]? = some u → w.cell? (ad.add i) = some u := by
  rcases h with ⟨_, rfl, _⟩ | ⟨ad, rfl, hl, hc⟩
  · omega
  · exact ⟨ad, rfl, hc⟩
/-- Places, as numbers. -/
def nums (ks : List Nat) : List Value := ks.map fun (k : Nat) => .int .i64 (k : Int)
theorem nums_len (ks : List Nat) : (nums ks).length = ks.length := by unfold nums; rw [List.length_map]
theorem nums_snoc (ks : List Nat) (k : Nat) : nums ks ++ [.int .i64 (k : Int)] = nums (ks ++ [k]) := by simp [nums]
theorem nums_at (ks : List Nat) (i : Nat) (h : i < ks.length) : (nums ks)[i]? = some (.int .i64 ((ks.getD i 0 : Nat) : Int)) := by
  unfold nums
  rw [List.getElem?_map, List.getElem?_eq_getElem h, List.getD_eq_getElem?_getD, List.getElem?_eq_getElem h]
  rfl
theorem info_int : (Try.prog.info? 3).map (fun i => (i.zero, i.size, i.bytes)) = some (some (.int .i64 0), 1, 8) := by kernel_rfl
theorem ret_bool {a b : Bool} (h : a = b) : Ending.returned (.bool a) = .returned (.bool b) := by rw [h]

def hasB (ks : List Nat) (x : Int) : Bool := decide (0 ≤ x ∧ x.toNat ∈ ks)
set_option maxHeartbeats 1000000 in
theorem has_any (A : Option Addr) (c n : Nat) (ks : List Nat) (x : Int) (w : World) (hn : n = ks.length) (hnb : n ≤ 140737488355328) (hA : Src w A n c (nums ks)) :
    Calls Try.prog 39 #[.slice A n c, .int .i64 x] w fun e w' => e = .returned (.bool (hasB ks x)) ∧ w = w' := by
  have HN := Lib.hid hn
  have GA := Lib.hid hA
  clear hn hA
  go_enter Try.func39, Try.ntmps39
  go_wp2_with fail
  go_loop [5] (fun i => ∃ k : Nat, k ≤ n ∧ i = .int .i64 k ∧ Hid (∀ j, j < k → ((ks.getD j 0 : Nat) : Int) ≠ x)) (fun i => n - (RowKit.intOf i).toNat)
  case atStart => exact ⟨0, by omega, rfl, Lib.hid fun j hj => by omega⟩
  case round =>
    obtain ⟨k, hk, rfl, HI⟩ := hrel
    by_cases hlt : k < n
    · obtain ⟨⟨b, o, sp⟩, rfl, hc⟩ := src_get' GA.out (by omega)
      have hkl : k < ks.length := by rw [← HN.out]; exact hlt
      have e1 := hc k _ (nums_at ks k hkl)
      by_cases he : ((ks.getD k 0 : Nat) : Int) = x
      · have HV : Hid (hasB ks x = true) := Lib.hid (decide_eq_true ⟨by omega, by
          rw [← he, Int.toNat_natCast, List.getD_eq_getElem?_getD, List.getElem?_eq_getElem hkl]
          exact List.getElem_mem hkl⟩)
        have t1 : (((ks.getD k 0 : Nat) : Int) == x) = true := beq_iff_eq.2 he
        generalize ((ks.getD k 0 : Nat) : Int) = z at e1 t1
        clear he hc
        go_wp2_with fail
        go_ret
        rw [HV.out]
        exact ⟨rfl, rfl⟩
      · have HI2 : Hid (∀ j, j < k + 1 → ((ks.getD j 0 : Nat) : Int) ≠ x) := Lib.hid fun j hj => by
          by_cases hjk : j = k
          · rw [hjk]; exact he
          · exact HI.out j (by omega)
        have t1 : (((ks.getD k 0 : Nat) : Int) == x) = false := beq_eq_false_iff_ne.2 he
        generalize ((ks.getD k 0 : Nat) : Int) = z at e1 t1
        clear he hc
        go_wp2_with fail
        go_round
        case rel => exact ⟨k + 1, by omega, by go_num, HI2⟩
        case measure => simp [RowKit.intOf]; omega
    · obtain rfl : n = k := by omega
      have HV : Hid (hasB ks x = false) := Lib.hid (decide_eq_false (by
        rintro ⟨h0, hm⟩
        obtain ⟨j, hj, he⟩ := List.getElem_of_mem hm
        have h1 := HI.out j (by rw [HN.out]; exact hj)
        rw [List.getD_eq_getElem?_getD, List.getElem?_eq_getElem hj] at h1
        exact h1 (by show ((ks[j] : Nat) : Int) = x; omega)))
      go_wp2_with fail
      go_ret
      rw [HV.out]
      exact ⟨rfl, rfl⟩
/-- What a call hands out that makes a list of places. -/
def MadeN (ks : List Nat) (w : World) (e : Ending) (w' : World) : Prop :=
  ∃ A n c, n = ks.length ∧ e = .returned (.slice A n c) ∧ w'.ownsRow w.heap.size 3 1 (.slice A n c) n (nums ks) ∧ Below w.heap.size w w'
def upFrom (L : List Nd) (q : Int) : List Nat := if q < 0 then [] else aboveN L q.toNat

set_option maxHeartbeats 2000000 in
theorem above_any (A : Option Addr) (c n : Nat) (L : List Nd) (R : List Sl) (j : Nat) (w : World) (hj : j < n) (hnb : n ≤ 16777216) (hb : Behind L (j + 1)) (hA : NodesIn w A n L R) :
    Calls Try.prog 20 #[.slice A n c, .int .i64 (j : Int)] w (MadeN (aboveN L j) w) := by
  have HBH := Lib.hid hb
  have GA := Lib.hid hA
  clear hb hA
  go_enter Try.func20, Try.ntmps20
  go_wp2_with fail
  go_loopw [1, 5] (fun v1 v5 wr => ∃ (q : Int) (T : List Nat) (m : Nat), q ≤ (j : Int) ∧ v1 = .int .i64 q ∧ (m : Int) + q ≤ (j : Int) ∧ m ≤ j + 1 ∧ Hid (m = T.length) ∧ Hid (aboveN L j = T ++ upFrom L q) ∧ wr.ownsRow w.heap.size 3 1 v5 m (nums T) ∧ Below w.heap.size w wr) (fun v1 _ _ => (RowKit.intOf v1 + 1).toNat)
  case atStart => exact ⟨j, [], 0, by omega, rfl, by omega, by omega, Lib.hid rfl, Lib.hid (by unfold upFrom; rw [if_neg (by omega), Int.toNat_natCast]; rfl), own_nil w _ _, Below.refl _ _⟩
  case round =>
    obtain ⟨q, T, m, hq, rfl, hmq, hmj, HM, HT, hown, hbw⟩ := hrel
    have HO := Lib.hid hown
    have HB := Lib.hid hbw
    have hsz := hbw.size
    clear hown hbw
    by_cases hq0 : 0 ≤ q
    · obtain ⟨p, rfl⟩ : ∃ p : Nat, q = (p : Int) := ⟨q.toNat, by omega⟩
      obtain ⟨b, o, rfl, hbs, hc⟩ := GA.out.at (by omega)
      have e0 := (hc p (by omega)).1.1
      have e1 : ∀ W, Below w.heap.size w W → W.cell? ⟨b, o + p * 3, none⟩ = some (.int .i64 (L.getD p nd0).parent) := fun W h => by rw [h.cell (p := ⟨b, o + p * 3, none⟩) hbs]; exact e0
      have E1 := Lib.hid e1
      have hlow := HBH.out p (by omega)
      have HT2 : Hid (aboveN L j = (T ++ [p]) ++ upFrom L (L.getD p nd0).parent) := Lib.hid (by
        rw [HT.out]
        have h := above_step L (j + 1) HBH.out p (by omega)
        show T ++ (if ((p : Nat) : Int) < 0 then [] else aboveN L ((p : Nat) : Int).toNat) = _
        rw [if_neg (by omega), Int.toNat_natCast, h, List.append_assoc]
        rfl)
      clear hc e0 e1
      generalize (L.getD p nd0).parent = z at E1 hlow HT2
      go_wp2_with (at_builtin; go_must (refine wpList_append_src rfl (.tmp 8) (.tmp 10) 29 rfl w.heap.size 3 (.int .i64 0) 8 Try.underlying29 info_int rfl _ m (nums T) rfl (HO.out.alloc _) _ 1 1 [.int .i64 (p : Int)] rfl (src_new _ _ _) (by intro u hu; simp at hu; subst hu; rfl) (by omega) (by omega) (by simp; omega) ?_); intro v3 w3 ho3 hg3; rw [nums_snoc] at ho3; have O3 := Lib.hid ho3; have B3 := Lib.hid (below_grown' HB.out hsz HO.out (Nat.le_refl _) hg3); clear ho3 hg3; have e3 := E1.out _ B3.out)
      go_wp2_with fail
      go_roundw
      case rel => exact ⟨z, T ++ [p], m + 1, by omega, rfl, by omega, by omega, Lib.hid (by rw [HM.out]; simp), HT2, O3.out, B3.out⟩
      case measure => simp [RowKit.intOf]; omega
    · have HT2 : Hid (aboveN L j = T) := Lib.hid (by rw [HT.out]; unfold upFrom; rw [if_pos (by omega), List.append_nil])
      obtain ⟨A1, c1, rfl, _⟩ := own_src HO.out
      go_wp2_with fail
      go_ret
      rw [HT2.out]
      exact ⟨A1, m, c1, HM.out, rfl, HO.out, HB.out⟩
end Go.Proofs.Ytfafhkhamaccfaa.Tr
