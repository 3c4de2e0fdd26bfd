/- The document's Twin. -/
import Derived.Test.YtfafhkhamaccfaaTrW
namespace Go.Proofs.Ytfafhkhamaccfaa.Tr
open Go.ChangeShapes Go.WideShapes Go.ChangeAt Go.RowKit Own wordsNames

theorem info_node : (Try.prog.info? 38).map (fun i => (i.zero, i.size, i.bytes)) = some (some (.agg #[.int .i64 0, .string ByteArray.empty, .slice none 0 0]), 3, 48) := by kernel_rfl
theorem info_prop : (Try.prog.info? 54).map (fun i => (i.zero, i.size, i.bytes)) = some (some (.agg #[.string ByteArray.empty, .string ByteArray.empty]), 2, 32) := by kernel_rfl
theorem set_grown (w : World) (p : Addr) (u : Value) : w.grownBy (w.setCell p u) (some p.block) := ⟨rfl, rfl, rfl, by simp, fun k _ hk => heap_setCell_other w p k u (fun e => hk (by simp [e]))⟩
theorem takeN (L : List Nd) (k : Nat) (h : k < L.length) : L.take (k + 1) = L.take k ++ [L.getD k nd0] := by
  rw [List.take_succ_eq_append_getElem h, List.getD_eq_getElem?_getD, List.getElem?_eq_getElem h]
  rfl
theorem src_new3 (w : World) (x y z : Value) (t : TypeId) {g : Nat} (hg : g = w.heap.size) : SrcK 3 (w.alloc (.cells #[x, y, z] t)) (some ⟨g, 0, none⟩) 1 1 [x, y, z] := by
  subst hg
  exact .inr ⟨_, rfl, rfl, fun j u hu => by
    rw [add_plain, Lib.cell_of_heap (heap_alloc_new w _), Nat.zero_add]
    match j, hu with
    | 0, hu => exact hu
    | 1, hu => exact hu
    | 2, hu => exact hu⟩
theorem kept_box {w : World} {bx n : Nat} {E : TypeId} {k : Nat} {v : Value} {xs : List Value} (ho : w.ownsRow (bx + 1) E k v n xs) (j : Nat) (u : Value) : (w.setCell ⟨bx, j, none⟩ u).ownsRow (bx + 1) E k v n xs := ho.kept (set_grown w ⟨bx, j, none⟩ u) (by
  cases hv : v.ownBlock with
  | none => exact .inl rfl
  | some g => exact .inr fun e => by injection e with e; have := (ho.lt g hv).1; simp at e; omega)
theorem box_cells {w : World} {bx : Nat} {x y z : Value} {t : TypeId} (h : w.heap[bx]? = some (.cells #[x, y, z] t (0, 0))) (u : Value) :
    w.cell? ⟨bx, 2, none⟩ = some z ∧ w.frozen? ⟨bx, 2, none⟩ = false ∧ (w.setCell ⟨bx, 2, none⟩ u).cell? ⟨bx, 0, none⟩ = some x ∧ (w.setCell ⟨bx, 2, none⟩ u).cell? ⟨bx, 1, none⟩ = some y ∧ (w.setCell ⟨bx, 2, none⟩ u).cell? ⟨bx, 2, none⟩ = some u := by
  have s0 : w.cell? ⟨bx, 0, none⟩ = some x := by rw [Lib.cell_of_heap h]; rfl
  have s1 : w.cell? ⟨bx, 1, none⟩ = some y := by rw [Lib.cell_of_heap h]; rfl
  have s2 : w.cell? ⟨bx, 2, none⟩ = some z := by rw [Lib.cell_of_heap h]; rfl
  refine ⟨s2, frozen_of_row w bx 2 _ _ h, ?_, ?_, World.cell?_setCell_same _ _ _ s2⟩
  · rw [World.cell?_setCell_other]; exact s0; simp
  · rw [World.cell?_setCell_other]; exact s1; simp
theorem twin_step {w wr w1 : World} {x y z v3 : Value} {A1 : Option Addr} {rn c1 k : Nat} {xs ys : List Value} {R : List Sl} {L : List Nd}
    (hg1 : ((wr.alloc (.cells #[x, y, z] 38)).alloc (.cells #[] 54)).grownBy w1 (Value.slice (some ⟨wr.heap.size + 1, 0, none⟩) 0 0).ownBlock)
    (ho1 : w1.ownsRow (wr.heap.size + 1) 54 2 (.slice A1 rn c1) rn xs) (ho : wr.ownsRow w.heap.size 38 3 v3 k ys) (hro : PropsOwn wr w.heap.size R L) (hb : Below w.heap.size w wr) :
    (w1.cell? ⟨wr.heap.size, 2, none⟩ = some z ∧ w1.frozen? ⟨wr.heap.size, 2, none⟩ = false ∧ (w1.setCell ⟨wr.heap.size, 2, none⟩ (.slice A1 rn c1)).cell? ⟨wr.heap.size, 0, none⟩ = some x ∧ (w1.setCell ⟨wr.heap.size, 2, none⟩ (.slice A1 rn c1)).cell? ⟨wr.heap.size, 1, none⟩ = some y ∧ (w1.setCell ⟨wr.heap.size, 2, none⟩ (.slice A1 rn c1)).cell? ⟨wr.heap.size, 2, none⟩ = some (.slice A1 rn c1)) ∧
    (w1.setCell ⟨wr.heap.size, 2, none⟩ (.slice A1 rn c1)).ownsRow (wr.heap.size + 1) 54 2 (.slice A1 rn c1) rn xs ∧ (w1.setCell ⟨wr.heap.size, 2, none⟩ (.slice A1 rn c1)).ownsRow w.heap.size 38 3 v3 k ys ∧ PropsOwn (w1.setCell ⟨wr.heap.size, 2, none⟩ (.slice A1 rn c1)) w.heap.size R L ∧
    Below w.heap.size w (w1.setCell ⟨wr.heap.size, 2, none⟩ (.slice A1 rn c1)) ∧ wr.heap.size ≤ w1.heap.size := by
  have hs : (wr.alloc (.cells #[x, y, z] 38)).heap.size = wr.heap.size + 1 := by simp
  have hs2 : ((wr.alloc (.cells #[x, y, z] 38)).alloc (.cells #[] 54)).heap.size = wr.heap.size + 2 := by simp
  have b2 : Below wr.heap.size wr ((wr.alloc (.cells #[x, y, z] 38)).alloc (.cells #[] 54)) := (grows' wr _).alloc (by simp) _
  have hbx : w1.heap[wr.heap.size]? = some (.cells #[x, y, z] 38 (0, 0)) := (hg1.block wr.heap.size (by rw [hs2]; omega) (by simp [Value.ownBlock])).trans (((grows' (wr.alloc (.cells #[x, y, z] 38)) (.cells #[] 54)).block wr.heap.size (by rw [hs]; exact Nat.lt_succ_self _)).trans (heap_alloc_new wr _))
  have b1 : Below wr.heap.size wr w1 := b2.grown hg1 (by rw [hs2]; omega) (by intro g hg; simp [Value.ownBlock] at hg; omega)
  have s1 : Below wr.heap.size wr (w1.setCell ⟨wr.heap.size, 2, none⟩ (.slice A1 rn c1)) := b1.setCell (p := ⟨wr.heap.size, 2, none⟩) (Nat.le_refl _) (.slice A1 rn c1)
  exact ⟨box_cells hbx _, kept_box ho1 2 _, own_belowK ho s1, hro.below s1, hb.trans (s1.mono hb.size), b1.size⟩
theorem twin_last {w W w3 : World} {x y z v3 : Value} {A1 : Option Addr} {rn c1 k b' : Nat} {ys : List Value} {R : List Sl} {L : List Nd} (d : Nd) (hg3 : (W.alloc (.cells #[x, y, z] 38)).grownBy w3 v3.ownBlock)
    (n1 : W.ownsRow b' 54 2 (.slice A1 rn c1) rn (propsV d.props)) (ol : W.ownsRow w.heap.size 38 3 v3 k ys) (rl : PropsOwn W w.heap.size R L) (bl : Below w.heap.size w W) (hb' : w.heap.size ≤ b')
    (hlt : ∀ i, i < R.length → ∀ g, (rowV R i).ownBlock = some g → g < b') : PropsOwn w3 w.heap.size (R ++ [(A1, rn, c1)]) (L ++ [d]) ∧ Below w.heap.size w w3 :=
  ⟨PropsOwn.snoc ((rl.below (grows' W _)).kept hg3 (fun i hi => own_apartK (rl.2.1 i hi) ol (by decide))) ((n1.alloc _).kept hg3 (own_apartK n1 ol (by decide))) hb' hlt, below_grown' bl bl.size ol (Nat.le_refl _) hg3⟩
/-- What Twin hands out. -/
def MadeT (L : List Nd) (w : World) (e : Ending) (w' : World) : Prop :=
  ∃ A c n R, e = .returned (.slice A n c) ∧ NodesOwn w' w.heap.size A n c L R ∧ Below w.heap.size w w'
set_option maxRecDepth 100000 in
set_option maxHeartbeats 8000000 in
theorem twin_any (A : Option Addr) (c n : Nat) (L : List Nd) (R0 : List Sl) (w : World) (hm : Mild L) (hA : NodesIn w A n L R0) (hneat : ∀ k, Neat (R0.getD k sl0)) :
    Calls Try.prog 4 #[.slice A n c] w (MadeT L w) := by
  have HN := Lib.hid hA.1
  have HM := Lib.hid hm
  have GA := Lib.hid hA
  have HNE := Lib.hid hneat
  have hnb : n ≤ 16777216 := by have := hm.1; have := hA.1; omega
  clear hm hA hneat
  go_enter Try.func4, Try.ntmps4
  go_wp2_with fail
  go_loopw [3, 4] (fun v3 v4 wr => ∃ (k : Nat) (R : List Sl), k ≤ n ∧ v4 = .int .i64 k ∧ wr.ownsRow w.heap.size 38 3 v3 k (ndsV (L.take k) R) ∧ PropsOwn wr w.heap.size R (L.take k) ∧ Below w.heap.size w wr) (fun _ v4 _ => n - (RowKit.intOf v4).toNat)
  case atStart => exact ⟨0, [], Nat.zero_le _, rfl, own_nilK w _ _ _, PropsOwn.nil w _, Below.refl _ _⟩
  case round =>
    obtain ⟨k, R, hk, rfl, hown, hrows, hbw⟩ := hrel
    have HO := Lib.hid hown
    have HRO := Lib.hid hrows
    have HB := Lib.hid hbw
    have hsz := hbw.size
    clear hown hrows hbw
    by_cases hlt : k < n
    · obtain ⟨b, o, rfl, hbs, hc⟩ := (GA.out.below HB.out).at (by omega)
      obtain ⟨⟨e1, e2, e3⟩, e4⟩ := hc k hlt
      have hne := HNE.out k
      have hpb := (HM.out.2 k).2.1
      have HTK := Lib.hid (takeN L k (by rw [← HN.out]; exact hlt))
      clear hc
      generalize L.getD k nd0 = d at e1 e2 e4 HTK hpb
      generalize R0.getD k sl0 = r at e3 e4 hne
      obtain ⟨pa, nm, ps⟩ := d
      obtain ⟨ra, rn, rc⟩ := r
      simp only at e1 e2 e3 e4 hpb
      have hrn : rn ≤ 16777216 := by rw [e4.1]; exact hpb
      have HS := Lib.hid fun (W : World) (hW : Below wr.heap.size wr W) => (e4.below hW).src hne
      have HFD : Hid (∀ x : Sl, nodeF (⟨pa, nm, ps⟩, x) = [.int .i64 pa, .string (str nm), .slice x.1 x.2.1 x.2.2]) := Lib.hid fun _ => rfl
      have k1 : (0 : Int) ≤ (k : Int) := by omega
      have k2 : (k : Int) < (n : Int) := by omega
      have hs : (wr.alloc (.cells #[.int .i64 pa, .string (str nm), .slice ra rn rc] 38)).heap.size = wr.heap.size + 1 := by simp
      have HBX := Lib.hid (heap_alloc_new wr (.cells #[.int .i64 pa, .string (str nm), .slice ra rn rc] 38))
      have HO1 := Lib.hid (own_emptyK (wr.alloc (.cells #[.int .i64 pa, .string (str nm), .slice ra rn rc] 38)) 54 2)
      rw [hs] at HO1
      have b2 : Below wr.heap.size wr ((wr.alloc (.cells #[.int .i64 pa, .string (str nm), .slice ra rn rc] 38)).alloc (.cells #[] 54)) := (grows' wr _).alloc (by simp) _
      have B2 := Lib.hid b2
      have c2 : ((wr.alloc (.cells #[.int .i64 pa, .string (str nm), .slice ra rn rc] 38)).alloc (.cells #[] 54)).cell? ⟨wr.heap.size, 2, none⟩ = some (.slice ra rn rc) :=
        ((grows' (wr.alloc (.cells #[.int .i64 pa, .string (str nm), .slice ra rn rc] 38)) _).cell (p := ⟨wr.heap.size, 2, none⟩) (by rw [hs]; exact Nat.lt_succ_self _)).trans (box2 wr _ _ _ _)
      clear e4 hne b2 hpb
      generalize str nm = S at e2 c2 HFD hs HBX HO1 B2
      go_wp2_with (first
        | (at_builtin; (refine wpList_append_srcK (o := ⟨some 19, _, _, _, _, _⟩) rfl (.tmp 16) (.tmp 18) 36 rfl (wr.heap.size + 1) 54 (.agg #[.string ByteArray.empty, .string ByteArray.empty]) 2 32 (by omega) Try.underlying36 info_prop rfl _ 0 [] rfl HO1.out ra rn rc (propsV ps) rfl (HS.out _ B2.out) (one_props ps) (by omega) (by omega) (by simp) ?_); intro v1 w1 ho1 hg1; simp only [Nat.zero_add, List.nil_append] at ho1; obtain ⟨A1, c1, rfl, _⟩ := own_srcK ho1; obtain ⟨⟨s2, f2, q0, q1, q2⟩, n1, ol, rl, bl, hsz1⟩ := twin_step hg1 ho1 HO.out HRO.out HB.out; have N1 := Lib.hid n1; have OL := Lib.hid ol; have RL := Lib.hid rl; have BL := Lib.hid bl; clear ho1 hg1 n1 ol rl bl)
        | (at_builtin; go_must (refine wpList_append_srcK (o := ⟨some 24, _, _, _, _, _⟩) rfl (.tmp 21) (.tmp 23) 22 rfl w.heap.size 38 (.agg #[.int .i64 0, .string ByteArray.empty, .slice none 0 0]) 3 48 (by omega) Try.underlying22 info_node rfl _ k (ndsV (L.take k) R) rfl (OL.out.alloc _) _ 1 1 [.int .i64 pa, .string S, .slice A1 rn c1] rfl (src_new3 _ _ _ _ _ (by simp)) (by intro u hu; simp at hu; rcases hu with rfl | rfl | rfl <;> rfl) (by omega) (by omega) (by simp; omega) ?_); intro v3 w3 ho3 hg3))
      rw [← HFD.out (A1, rn, c1), ndsV_snoc _ _ _ _ HRO.out.1.symm, ← HTK.out] at ho3
      obtain ⟨p3, b3⟩ := twin_last ⟨pa, nm, ps⟩ hg3 N1.out OL.out RL.out BL.out (by omega) (fun i hi g hg => Nat.lt_succ_of_lt ((HRO.out.2.1 i hi).lt g hg).2)
      rw [← HTK.out] at p3
      have O3 := Lib.hid ho3
      have P3 := Lib.hid p3
      have B3 := Lib.hid b3
      clear ho3 hg3 p3 b3
      go_wp2_with fail
      go_roundw
      case rel => exact ⟨k + 1, R ++ [(A1, rn, c1)], by omega, by go_num, O3.out, P3.out, B3.out⟩
      case measure => simp [RowKit.intOf]; omega
    · obtain rfl : n = k := by omega
      have HTK : Hid (L.take n = L) := Lib.hid (by rw [HN.out, List.take_length])
      rw [HTK.out] at HRO HO
      obtain ⟨A1, c1, rfl, _⟩ := own_srcK HO.out
      go_wp2_with fail
      go_ret
      exact ⟨A1, c1, n, R, rfl, ⟨HN.out, HO.out, HRO.out⟩, HB.out⟩
end Go.Proofs.Ytfafhkhamaccfaa.Tr
