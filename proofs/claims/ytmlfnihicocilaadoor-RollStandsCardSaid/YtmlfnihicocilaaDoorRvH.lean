/- The document's answers: the cards, an array, a card by its name. -/
import Derived.Test.YtmlfnihicocilaaDoorRvG
import Derived.Test.YtmlfnihicocilaaDoorRlR
namespace Go.Proofs.YtmlfnihicocilaaDoor.Kq
open Go.ChangeShapes Go.WideShapes Go.ChangeAt Go.RowKit Own Ro wordsNames Kc
open Ka (i64s i64s_len i64s_at)

def CardsPost (w : World) (e : Ending) (w' : World) : Prop := ∃ A c R, e = .returned (.slice A 22 c) ∧ RowsOwn KC w' 0 A 22 c SL R ∧ Below w.heap.size w w'
set_option maxRecDepth 100000 in
set_option maxHeartbeats 8000000 in
theorem refCards_any (w : World) : Calls Tryd.prog 32 #[] w (CardsPost w) := by
  have HS := Lib.hid (refStands_any w)
  go_enter Tryd.func32, Tryd.ntmps32
  go_wp2_with fail
  refine HS.out.mono ?_
  rintro e w1 ⟨rfl, hb, c, f, tb, RC, RF, RT, hq, _, _⟩
  have hn : c.2.1 = 22 := by rw [hq.cl.1, SL_len]
  obtain ⟨ca, cn, cc⟩ := c
  obtain rfl : cn = 22 := hn
  have HF : Hid (CardsPost w (.returned (.slice ca 22 cc)) w1) := Lib.hid ⟨ca, cc, RC, rfl, hq.cl, hb⟩
  have c0 := hq.cell (j := 0) rfl
  simp only [slV] at c0
  clear hq hb HS
  go_wp2_with fail
  go_ret
  exact HF.out
def NumsPost (nm : List UInt8) (w : World) (e : Ending) (w' : World) : Prop := ∃ r : Sl, e = .returned (.tuple #[slV r, .int .i64 (if lookT (tabsI 5) nm = [] then 6 else 0)]) ∧ r.2.1 = (lookT (tabsI 5) nm).length ∧ CellsIn w' 1 r.1 r.2.1 (i64s (lookT (tabsI 5) nm)) ∧ Below w.heap.size w w'
set_option maxRecDepth 100000 in
set_option maxHeartbeats 8000000 in
theorem refNums_any (nm : List UInt8) (w : World) : Calls Tryd.prog 16 #[.string (str nm)] w (NumsPost nm w) := by
  have HS := Lib.hid (refStands_any w)
  have HTT := Lib.hid (fun tb RT W (h : StAt W w.heap.size tb) hT => refTable_any w.heap.size tb (tabsI 5) RT nm W h hT (by rw [tabsI_len]; omega))
  have HPO : Hid (NumsPost nm w = NumsPost nm w) := Lib.hid rfl
  generalize hX : str nm = X at HTT ⊢
  clear hX HPO
  go_enter Tryd.func16, Tryd.ntmps16
  go_wp2_with fail
  refine HS.out.mono ?_
  rintro e w1 ⟨rfl, hb, c, f, tb, RC, RF, RT, hq, hrt, _⟩
  have HT := Lib.hid (HTT.out tb RT w1 (qat_st hq) hrt.rows)
  have HL := Lib.hid (rows_look hrt.rows (fun i => (hrt.neat i).1) nm)
  have HB := Lib.hid hb
  clear HS HTT hb hq hrt
  go_wp2_with fail
  refine HT.out.mono ?_
  rintro e w2 ⟨rfl, rfl⟩
  clear HT
  generalize lookR (tabsI 5) RT nm = lr at HL ⊢
  obtain ⟨la, ln, lc⟩ := lr
  obtain ⟨hl1, hl2, _⟩ := HL.out
  dsimp only at hl1 hl2
  by_cases h0 : lookT (tabsI 5) nm = []
  · have HF : Hid (NumsPost nm w (.returned (.tuple #[.slice none 0 0, .int .i64 6])) w2) := Lib.hid ⟨sl0, by rw [if_pos h0]; rfl, by rw [h0]; rfl, ⟨by rw [h0]; rfl, .inl rfl⟩, HB.out⟩
    rw [h0] at hl1
    obtain rfl : ln = 0 := hl1
    clear hl2 HL h0
    simp only [slV]
    go_wp2_with fail
    go_ret2
    exact HF.out
  · have HF : Hid (NumsPost nm w (.returned (.tuple #[.slice la ln lc, .int .i64 0])) w2) := Lib.hid ⟨(la, ln, lc), by rw [if_neg h0]; rfl, hl1, hl2, HB.out⟩
    have hp : 0 < ln := by
      rw [hl1]
      exact List.length_pos_iff.2 h0
    clear hl2 hl1 HL h0
    simp only [slV]
    have hd : decide ((ln : Int) = 0) = false := decide_eq_false (by omega)
    go_wp2_with fail
    go_ret2
    exact HF.out
def RFindPost (nm : List UInt8) (w : World) (e : Ending) (w' : World) : Prop :=
  ∃ d r er, e = .returned (.tuple #[cardV d r, .int .i64 er]) ∧ FindRel nm d er ∧ r.2.1 = d.compat.length ∧ w'.ownsRow 0 9 1 (slV r) r.2.1 (strs d.compat) ∧ Below w.heap.size w w'
set_option maxRecDepth 100000 in
set_option maxHeartbeats 8000000 in
theorem refFind_any (nm : List UInt8) (w : World) : Calls Tryd.prog 10 #[.string (str nm)] w (RFindPost nm w) := by
  have HC := Lib.hid refCards_any
  have BX := Lib.hid (box_made w #[.string ⟨#[]⟩, .string ⟨#[]⟩, .int .u8 0, .slice none 0 0, .int .i8 0, .string ⟨#[]⟩, .int .i16 0] rfl)
  have BB := Lib.hid (grows' w (.cells #[.string ⟨#[]⟩, .string ⟨#[]⟩, .int .u8 0, .slice none 0 0, .int .i8 0, .string ⟨#[]⟩, .int .i16 0] 27))
  have HQN := Lib.hid (fun k => eq_lists (SL.getD k cd0).name nm)
  generalize str nm = X at HQN ⊢
  go_enter Tryd.func10, Tryd.ntmps10
  go_wp2_with fail
  refine (HC.out _).mono ?_
  rintro e w1 ⟨A, c, R, rfl, hr, hb⟩
  have HR := Lib.hid hr
  have HB := Lib.hid (bt BB.out hb)
  have BX1 := Lib.hid (own_belowK BX.out hb)
  have hs1 : w.heap.size + 1 ≤ w1.heap.size := by have := hb.size; simpa using this
  clear hr hb BX BB HC
  go_wp2_with fail
  go_loopw [5] (fun v5 wr => ∃ k : Nat, k ≤ 22 ∧ v5 = .int .i64 (k : Nat) ∧ (∀ i, i < k → (SL.getD i cd0).name ≠ nm) ∧ w1 = wr) (fun v5 _ => 22 - (RowKit.intOf v5).toNat)
  case atStart => exact ⟨0, by omega, rfl, fun i hi => absurd hi (by omega), rfl⟩
  case round =>
    obtain ⟨k, hk, rfl, hall, rfl⟩ := hrel
    have HALL := Lib.hid hall
    clear hall
    by_cases hlt : k < 22
    · have k1 : (0 : Int) ≤ (k : Int) := by omega
      have k2 : (k : Int) < 22 := by omega
      obtain ⟨b, o, rfl, hbs, hc, hlen, hin⟩ := HR.out.rows.at hlt
      have e0 : w1.cell? ⟨b, o + k * 7, none⟩ = some (.string (str (SL.getD k cd0).name)) := hc 0 _ rfl
      have e1 : w1.cell? ⟨b, o + k * 7 + 1, none⟩ = some (.string (str (SL.getD k cd0).fam)) := hc 1 _ rfl
      have e2 : w1.cell? ⟨b, o + k * 7 + 2, none⟩ = some (.int .u8 (SL.getD k cd0).level) := hc 2 _ rfl
      have e3 : w1.cell? ⟨b, o + k * 7 + 3, none⟩ = some (slV (R.getD k sl0)) := hc 3 _ rfl
      have e4 : w1.cell? ⟨b, o + k * 7 + 4, none⟩ = some (.int .i8 (SL.getD k cd0).score) := hc 4 _ rfl
      have e5 : w1.cell? ⟨b, o + k * 7 + 5, none⟩ = some (.string (str (SL.getD k cd0).quirk)) := hc 5 _ rfl
      have e6 : w1.cell? ⟨b, o + k * 7 + 6, none⟩ = some (.int .i16 (SL.getD k cd0).entry) := hc 6 _ rfl
      have HI : Hid ((R.getD k sl0).2.1 = (SL.getD k cd0).compat.length ∧ w1.ownsRow 0 9 1 (slV (R.getD k sl0)) (R.getD k sl0).2.1 (strs (SL.getD k cd0).compat)) := Lib.hid (HR.out.2.2.2.1 k (by rw [HR.out.2.2.1, SL_len]; exact hlt))
      have q0 := HQN.out k
      have HM := Lib.hid (SL_mem k hlt)
      clear hc hlen hin hbs
      generalize hsd : SL.getD k cd0 = d at e0 e1 e2 e3 e4 e5 e6 HI q0 HM
      generalize R.getD k sl0 = r at e3 HI
      obtain ⟨ra, rn, rc⟩ := r
      obtain ⟨dn, df, dl, dc, ds, dq, de⟩ := d
      simp only [slV] at e3 HI
      dsimp only at e0 e1 e2 e4 e5 e6 HI q0
      have hd : (dn = nm) ∨ (dn ≠ nm) := Classical.em _
      have HSD := Lib.hid hsd
      clear hsd
      rcases hd with rfl | hne
      · rw [decide_eq_true rfl] at q0
        have HRL : Hid (FindRel dn ⟨dn, df, dl, dc, ds, dq, de⟩ 0) := Lib.hid (.inl ⟨HM.out, rfl, rfl⟩)
        generalize hD0 : str dn = D0 at e0 q0
        have HD0 := Lib.hid hD0
        clear hD0
        have HTH := Lib.hid (there_own (g := w.heap.size) BX1.out 0 (by omega))
        go_wp2_with (refine wpList_store_mid (op := ⟨none, .store 27 (.tmp 2) (.tmp 23), _, _, _, _⟩) rfl 27 (.tmp 2) (.tmp 23) rfl w.heap.size 0 #[.string D0, .string (str df), .int .u8 dl, .slice ra rn rc, .int .i8 ds, .string (str dq), .int .i16 de] rfl rfl HTH.out (by kernel_rfl) (by kernel_rfl) ?_)
        have BX3 := own_sets [.string D0, .string (str df), .int .u8 dl, .slice ra rn rc, .int .i8 ds, .string (str dq), .int .i16 de] 0 BX1.out
        rw [set7L _ _ _ _ _ _ _ _ rfl] at BX3
        have HI3 := own_setsNe [.string D0, .string (str df), .int .u8 dl, .slice ra rn rc, .int .i8 ds, .string (str dq), .int .i16 de] 0 HI.out.2 (g := w.heap.size) (fun e => by
          obtain ⟨_, _, t1⟩ := own_type HI.out.2 e
          obtain ⟨_, _, t2⟩ := own_type BX1.out (g := w.heap.size) rfl
          exact type_ne t1 t2 (by decide) rfl)
        have B3 := below_sets (Nat.le_refl _) [.string D0, .string (str df), .int .u8 dl, .slice ra rn rc, .int .i8 ds, .string (str dq), .int .i16 de] 0 HB.out
        refine bodyPost_ret (results_row_num rfl _ _ w.heap.size _ _ rfl (BoxAt.range BX3) Tryd.underlying27 (by kernel_rfl) (by kernel_rfl)) rfl ?_
        exact ⟨_, (ra, rn, rc), 0, by rw [← HD0.out]; rfl, HRL.out, HI.out.1, HI3, B3⟩
      · rw [decide_eq_false hne] at q0
        have HA2 : Hid (∀ i, i < k + 1 → (SL.getD i cd0).name ≠ nm) := Lib.hid (fun i hi => if hik : i = k then by rw [hik, HSD.out]; exact hne else HALL.out i (by omega))
        clear hne
        generalize str dn = D0 at e0 q0
        go_wp2_with fail
        go_roundw
        case rel => exact ⟨k + 1, by omega, by go_num, HA2.out, trivial⟩
        case measure => simp [RowKit.intOf]; omega
    · obtain rfl : k = 22 := by omega
      have HRL : Hid (FindRel nm cd0 6) := Lib.hid (.inr ⟨fun x hx => by
        obtain ⟨i, hi, he⟩ := SL_at hx
        rw [← he]
        exact HALL.out i hi, rfl, rfl⟩)
      have HTH := Lib.hid (there_own (g := w.heap.size) BX1.out 0 (by omega))
      clear HALL
      go_wp2_with (refine wpList_store_mid (op := ⟨none, .store 27 (.tmp 2) (.tmp 24), _, _, _, _⟩) rfl 27 (.tmp 2) (.tmp 24) rfl w.heap.size 0 #[.string ⟨#[]⟩, .string ⟨#[]⟩, .int .u8 0, .slice none 0 0, .int .i8 0, .string ⟨#[]⟩, .int .i16 0] rfl rfl HTH.out (by kernel_rfl) (by kernel_rfl) ?_)
      have BX3 := own_sets [.string ⟨#[]⟩, .string ⟨#[]⟩, .int .u8 0, .slice none 0 0, .int .i8 0, .string ⟨#[]⟩, .int .i16 0] 0 BX1.out
      rw [set7L _ _ _ _ _ _ _ _ rfl] at BX3
      have B3 := below_sets (Nat.le_refl _) [.string ⟨#[]⟩, .string ⟨#[]⟩, .int .u8 0, .slice none 0 0, .int .i8 0, .string ⟨#[]⟩, .int .i16 0] 0 HB.out
      refine bodyPost_ret (results_row_num rfl _ _ w.heap.size _ _ rfl (BoxAt.range BX3) Tryd.underlying27 (by kernel_rfl) (by kernel_rfl)) rfl ?_
      exact ⟨cd0, sl0, 6, rfl, HRL.out, rfl, ⟨rfl, .inl ⟨rfl, rfl⟩⟩, B3⟩
end Go.Proofs.YtmlfnihicocilaaDoor.Kq
