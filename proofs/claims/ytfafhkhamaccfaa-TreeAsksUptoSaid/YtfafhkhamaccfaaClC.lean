/- The contracts of the program's readers: Wide and Cell. -/
import Derived.Test.YtfafhkhamaccfaaClB
namespace Go.Proofs.Ytfafhkhamaccfaa.Cl
open Go.ChangeShapes Go.WideShapes Go.ChangeAt Go.RowKit

theorem ret_two {k : IntKind} {a b : Int} {v : Value} (h : a = b) : Ending.returned (.tuple #[.int k a, v]) = .returned (.tuple #[.int k b, v]) := by rw [h]
theorem drop4 (l : List UInt8) (k : Nat) (h : 4 * k + 4 ≤ l.length) : l.drop (4 * k) = l.getD (4 * k) 0 :: l.getD (4 * k + 1) 0 :: l.getD (4 * k + 2) 0 :: l.getD (4 * k + 3) 0 :: l.drop (4 * (k + 1)) := by
  have e := fun (i : Nat) (hi : i < l.length) => List.drop_eq_getElem_cons (l := l) (i := i) hi
  have g := fun (i : Nat) (hi : i < l.length) => (by rw [List.getD_eq_getElem?_getD, List.getElem?_eq_getElem hi]; rfl : l.getD i 0 = l[i])
  rw [e (4 * k) (by omega), e (4 * k + 1) (by omega), e (4 * k + 1 + 1) (by omega), e (4 * k + 1 + 1 + 1) (by omega), g _ (by omega), g _ (by omega), g _ (by omega), g _ (by omega)]
  rfl
theorem take4 (l : List UInt8) (k : Nat) (h : 4 * k + 4 ≤ l.length) : l.take (4 * (k + 1)) = l.take (4 * k) ++ [l.getD (4 * k) 0, l.getD (4 * k + 1) 0, l.getD (4 * k + 2) 0, l.getD (4 * k + 3) 0] := by
  have h1 : 4 * (k + 1) = 4 * k + 4 := by omega
  rw [h1, List.take_add, drop4 l k h]
  rfl

theorem bcell {W w1 : World} (hb : Below W.heap.size W w1) : (∀ b o, b < W.heap.size → w1.cell? ⟨b, o, none⟩ = W.cell? ⟨b, o, none⟩) ∧ (∀ b o, b < W.heap.size → w1.frozen? ⟨b, o, none⟩ = W.frozen? ⟨b, o, none⟩) :=
  ⟨fun b o h => hb.cell (p := ⟨b, o, none⟩) h, fun b o h => hb.frozen (p := ⟨b, o, none⟩) h⟩
theorem wideVal (x y0 y1 y2 y3 : Nat) (hx : x < 4294967296) (h0 : y0 < 256) (h1 : y1 < 256) (h2 : y2 < 256) (h3 : y3 < 256) :
    Value.int .u64 (bits .or .u64 ((x : Int) * 4294967296) ((((y0 : Int) * 256 + (y1 : Int)) * 256 + (y2 : Int)) * 256 + (y3 : Int))) = Value.int .u64 ((x * 4294967296 + (((y0 * 256 + y1) * 256 + y2) * 256 + y3) : Nat) : Int) := by
  have e1 : (x : Int) * 4294967296 = ((x * 4294967296 : Nat) : Int) := by omega
  have e2 : (((y0 : Int) * 256 + (y1 : Int)) * 256 + (y2 : Int)) * 256 + (y3 : Int) = ((((y0 * 256 + y1) * 256 + y2) * 256 + y3 : Nat) : Int) := by omega
  rw [e1, e2, or32 x _ hx (by omega)]
theorem wide_arg (r : Nat) (n : Int) (w : World) (hn : n < 0 ∨ 2 < n) :
    Calls Try.prog 78 #[.pointer (some ⟨r, 0, none⟩), .int .i64 n] w fun e w' => e = .returned (.tuple #[.int .u64 0, .int .i64 1]) ∧ w = w' := by
  rcases hn with hn | hn
  · go_enter Try.func78, Try.ntmps78
    go_wp2
    go_ret2
    exact ⟨rfl, rfl⟩
  · have hn' : ¬ n < 0 := by omega
    go_enter Try.func78, Try.ntmps78
    go_wp2
    go_ret2
    exact ⟨rfl, rfl⟩
theorem wide_form (r g : Nat) (l : List UInt8) (n : Nat) (w : World) (hn : n ≤ 2) (h : Rd w r g l) (hl : l.length < 4 * n) :
    Calls Try.prog 78 #[.pointer (some ⟨r, 0, none⟩), .int .i64 n] w fun e w' => e = .returned (.tuple #[.int .u64 0, .int .i64 4]) ∧ w = w' := by
  obtain ⟨off, c, hb, hc, _⟩ := h
  have c0 : w.cell? ⟨r, 0, none⟩ = some (.slice (some ⟨g, off, none⟩) l.length c) := by rw [cell_heap hb]; rfl
  clear hb
  go_enter Try.func78, Try.ntmps78
  go_wp2
  go_ret2
  exact ⟨rfl, rfl⟩

set_option maxHeartbeats 1000000 in
theorem wide_ok (r g : Nat) (l : List UInt8) (n : Nat) (w : World) (hn : n ≤ 2) (h : Rd w r g l) (hl : 4 * n ≤ l.length) :
    Calls Try.prog 78 #[.pointer (some ⟨r, 0, none⟩), .int .i64 n] w fun e w' => e = .returned (.tuple #[.int .u64 (num (l.take (4 * n)) : Int), .int .i64 0]) ∧ Rd w' r g (l.drop (4 * n)) ∧ w.grownBy w' (some r) := by
  have HR := Lib.hid h
  obtain ⟨off, c, hb, hc, _⟩ := h
  have c0 : w.cell? ⟨r, 0, none⟩ = some (.slice (some ⟨g, off, none⟩) l.length c) := by rw [cell_heap hb]; rfl
  clear hb
  go_enter Try.func78, Try.ntmps78
  go_wp2
  clear c0 hc
  go_loopw [6, 27] (fun x i wr => ∃ k : Nat, k ≤ n ∧ i = .int .i64 k ∧ x = .int .u64 (num (l.take (4 * k)) : Int) ∧ Rd wr r g (l.drop (4 * k)) ∧ w.grownBy wr (some r)) (fun _ i _ => n - (intOf i).toNat)
  case atStart => exact ⟨0, Nat.zero_le _, rfl, rfl, HR.out, World.grownBy.refl w _⟩
  case round =>
    obtain ⟨k, hk, rfl, rfl, hrd, hgr⟩ := hrel
    have HG := Lib.hid hgr
    clear hgr
    by_cases hlt : k < n
    · obtain ⟨o2, c2, hb, hc, hne, hglt, hcell⟩ := hrd
      have hlen : (l.drop (4 * k)).length = l.length - 4 * k := List.length_drop
      rw [hlen] at hb hc hcell
      have HB := Lib.hid hb
      have HC := Lib.hid hcell
      have HT := Lib.hid (take4 l k (by omega))
      have hx : num (l.take (4 * k)) < 4294967296 := by
        refine Nat.lt_of_lt_of_le (num_lt _) (Nat.le_trans (Nat.pow_le_pow_right (by omega) (?_ : _ ≤ 4)) (by decide))
        simp
        omega
      have HX := Lib.hid (rfl : num (l.take (4 * k)) = num (l.take (4 * k)))
      have c0 : wr.cell? ⟨r, 0, none⟩ = some (.slice (some ⟨g, o2, none⟩) (l.length - 4 * k) c2) := by rw [cell_heap hb]; rfl
      have hgd : ∀ i, i < 4 → (l.drop (4 * k)).getD i 0 = l.getD (4 * k + i) 0 := fun i hi => by
        rw [List.getD_eq_getElem?_getD, List.getElem?_drop, ← List.getD_eq_getElem?_getD]
      have b0 : wr.cell? ⟨g, o2, none⟩ = some (.int .u8 ((l.getD (4 * k) 0).toNat : Int)) := by
        have := hcell 0 (by omega)
        rw [hgd 0 (by omega)] at this
        exact this
      have b1 : wr.cell? ⟨g, o2 + 1, none⟩ = some (.int .u8 ((l.getD (4 * k + 1) 0).toNat : Int)) := by
        have := hcell 1 (by omega)
        rw [hgd 1 (by omega)] at this
        exact this
      have b2 : wr.cell? ⟨g, o2 + 2, none⟩ = some (.int .u8 ((l.getD (4 * k + 2) 0).toNat : Int)) := by
        have := hcell 2 (by omega)
        rw [hgd 2 (by omega)] at this
        exact this
      have b3 : wr.cell? ⟨g, o2 + 3, none⟩ = some (.int .u8 ((l.getD (4 * k + 3) 0).toNat : Int)) := by
        have := hcell 3 (by omega)
        rw [hgd 3 (by omega)] at this
        exact this
      have h0 := (l.getD (4 * k) 0).toNat_lt
      have h1 := (l.getD (4 * k + 1) 0).toNat_lt
      have h2 := (l.getD (4 * k + 2) 0).toNat_lt
      have h3 := (l.getD (4 * k + 3) 0).toNat_lt
      have HN : Hid (num (l.take (4 * (k + 1))) = num (l.take (4 * k)) * 4294967296 + ((((l.getD (4 * k) 0).toNat * 256 + (l.getD (4 * k + 1) 0).toNat) * 256 + (l.getD (4 * k + 2) 0).toNat) * 256 + (l.getD (4 * k + 3) 0).toNat)) := Lib.hid (by
        have h4 : (256 : Nat) ^ 4 = 4294967296 := by decide
        rw [HT.out, num_append, num4, ← h4]
        rfl)
      clear hb hcell hgd HT
      generalize num (l.take (4 * k)) = x at hx HN
      generalize (l.getD (4 * k) 0).toNat = y0 at b0 h0 HN
      generalize (l.getD (4 * k + 1) 0).toNat = y1 at b1 h1 HN
      generalize (l.getD (4 * k + 2) 0).toNat = y2 at b2 h2 HN
      generalize (l.getD (4 * k + 3) 0).toNat = y3 at b3 h3 HN
      have hat : ∀ (c : Nat) (W : World), (Instr.arrayAt 107 (.slice (some ⟨g, o2, none⟩) 4 c)).run Try.prog W = .ok (.pointer (some ⟨g, o2, none⟩)) W := fun c W => run_arrayAt W 107 _ 4 _ 4 c Try.underlying107 (Nat.le_refl _)
      go_wp2_with fail
      refine (cellOf_any y0 y1 y2 y3 _ h0 h1 h2 h3).mono ?_
      rintro e w1 ⟨rfl, hb1⟩
      obtain ⟨hc1, hf1⟩ := bcell hb1
      have hs1 := hb1.size
      have d0 : w1.cell? ⟨r, 0, none⟩ = some (.slice (some ⟨g, o2, none⟩) (l.length - 4 * k) c2) := by rw [hc1 r 0 (lt_heap HB.out)]; exact c0
      have df : w1.frozen? ⟨r, 0, none⟩ = false := by rw [hf1 r 0 (lt_heap HB.out)]; exact free_heap HB.out 0
      have HB1 := Lib.hid hb1
      clear hb1 hc1 hf1 c0 b0 b1 b2 b3
      by_cases hc4 : c2 = 4
      · subst hc4
        go_wp2_with fail
        go_roundw
        case rel =>
          have hst := rd_step (m := 4) (l := l.drop (4 * k)) HB.out hne hglt (by rw [hlen]; exact HC.out) HB1.out o2 0 0 (.inr (by omega)) (by omega) (by omega)
          rw [List.drop_drop, (by omega : 4 * k + 4 = 4 * (k + 1))] at hst
          refine ⟨k + 1, by omega, by go_num, ?_, hst.1, HG.out.trans hst.2⟩
          rw [HN.out]
          exact wideVal x y0 y1 y2 y3 hx h0 h1 h2 h3
        case measure => simp [intOf]; omega
      · go_wp2_with fail
        go_roundw
        case rel =>
          have hst := rd_step (m := 4) (l := l.drop (4 * k)) HB.out hne hglt (by rw [hlen]; exact HC.out) HB1.out (o2 + 4) (l.length - 4 * k - 4) (c2 - 4) (.inl rfl) (by omega) (by omega)
          rw [List.drop_drop, (by omega : 4 * k + 4 = 4 * (k + 1))] at hst
          refine ⟨k + 1, by omega, by go_num, ?_, hst.1, HG.out.trans hst.2⟩
          rw [HN.out]
          exact wideVal x y0 y1 y2 y3 hx h0 h1 h2 h3
        case measure => simp [intOf]; omega
    · obtain rfl : k = n := by omega
      have HRD := Lib.hid hrd
      clear hrd
      go_wp2
      go_ret2
      exact ⟨rfl, HRD.out, HG.out⟩
theorem cell_form (r g : Nat) (l : List UInt8) (w : World) (h : Rd w r g l) (hl : l.length < 4) :
    Calls Try.prog 66 #[.pointer (some ⟨r, 0, none⟩)] w fun e w' => e = .returned (.tuple #[.int .u32 0, .int .i64 4]) ∧ w = w' := by
  have HR := Lib.hid h
  clear h
  go_enter Try.func66, Try.ntmps66
  go_wp2_with fail
  refine (wide_form r g l 1 _ (by omega) HR.out (by omega)).mono ?_
  rintro e w1 ⟨rfl, rfl⟩
  go_wp2
  go_ret2
  exact ⟨rfl, rfl⟩
theorem cell_ok (r g : Nat) (l : List UInt8) (w : World) (h : Rd w r g l) (hl : 4 ≤ l.length) :
    Calls Try.prog 66 #[.pointer (some ⟨r, 0, none⟩)] w fun e w' => e = .returned (.tuple #[.int .u32 (num (l.take 4) : Int), .int .i64 0]) ∧ Rd w' r g (l.drop 4) ∧ w.grownBy w' (some r) := by
  have HR := Lib.hid h
  clear h
  have hx : num (l.take 4) < 4294967296 := by
    refine Nat.lt_of_lt_of_le (num_lt _) (Nat.le_trans (Nat.pow_le_pow_right (by omega) (?_ : _ ≤ 4)) (by decide))
    simp
    omega
  go_enter Try.func66, Try.ntmps66
  go_wp2_with fail
  refine (wide_ok r g l 1 _ (by omega) HR.out (by omega)).mono ?_
  rintro e w1 ⟨rfl, h1, h2⟩
  have H1 := Lib.hid h1
  have H2 := Lib.hid h2
  clear h1 h2
  go_wp2
  go_ret2
  exact ⟨rfl, H1.out, H2.out⟩

theorem wide_any (r g : Nat) (l : List UInt8) (n : Int) (w : World) (h : Rd w r g l) :
    Calls Try.prog 78 #[.pointer (some ⟨r, 0, none⟩), .int .i64 n] w fun e w' => e = .returned (.tuple #[.int .u64 ((wideV l n).1 : Int), .int .i64 (wideV l n).2.1]) ∧ Rd w' r g (wideV l n).2.2 ∧ w.grownBy w' (some r) := by
  by_cases hn : n < 0 ∨ 2 < n
  · rw [wideV_arg hn]
    refine (wide_arg r n w hn).mono ?_
    rintro e w' ⟨rfl, rfl⟩
    exact ⟨rfl, h, World.grownBy.refl w _⟩
  · obtain ⟨k, rfl⟩ : ∃ k : Nat, n = (k : Int) := ⟨n.toNat, by omega⟩
    by_cases hl : l.length < 4 * k
    · rw [wideV_form (by omega) hl]
      refine (wide_form r g l k w (by omega) h hl).mono ?_
      rintro e w' ⟨rfl, rfl⟩
      exact ⟨rfl, h, World.grownBy.refl w _⟩
    · rw [wideV_ok (by omega) (by omega)]
      exact wide_ok r g l k w (by omega) h (by omega)
theorem cell_any (r g : Nat) (l : List UInt8) (w : World) (h : Rd w r g l) :
    Calls Try.prog 66 #[.pointer (some ⟨r, 0, none⟩)] w fun e w' => e = .returned (.tuple #[.int .u32 ((wideV l 1).1 : Int), .int .i64 (wideV l 1).2.1]) ∧ Rd w' r g (wideV l 1).2.2 ∧ w.grownBy w' (some r) := by
  by_cases hl : l.length < 4
  · have hv : wideV l 1 = (0, 4, l) := wideV_form (n := 1) (by omega) (by omega)
    rw [hv]
    refine (cell_form r g l w h hl).mono ?_
    rintro e w' ⟨rfl, rfl⟩
    exact ⟨rfl, h, World.grownBy.refl w _⟩
  · have hv : wideV l 1 = (num (l.take 4), 0, l.drop 4) := wideV_ok (n := 1) (by omega) (by omega)
    rw [hv]
    exact cell_ok r g l w h (by omega)
end Go.Proofs.Ytfafhkhamaccfaa.Cl
