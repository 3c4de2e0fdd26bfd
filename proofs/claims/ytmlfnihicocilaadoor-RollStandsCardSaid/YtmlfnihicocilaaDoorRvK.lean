/- The cards of a family: the document's and the program's. -/
import Derived.Test.YtmlfnihicocilaaDoorRvH
import Derived.Test.YtmlfnihicocilaaDoorRmF
namespace Go.Proofs.YtmlfnihicocilaaDoor.Kq
open Go.ChangeShapes Go.WideShapes Go.ChangeAt Go.RowKit Own Ro wordsNames Kc
open Ka (i64s i64s_len i64s_at)
open Rm (Fams crystalN supplyN busN sensorN radioN families_any)

def ofJ (nm : List UInt8) (k : Nat) : List Nat := (List.range k).filter fun j => decide ((SL.getD j cd0).fam = nm)
theorem ofJ_yes {nm : List UInt8} {k : Nat} (h : (SL.getD k cd0).fam = nm) : ofJ nm (k + 1) = ofJ nm k ++ [k] := by
  unfold ofJ
  rw [List.range_succ, List.filter_append]
  simp only [List.filter_cons, List.filter_nil, decide_eq_true h, if_true]
theorem ofJ_no {nm : List UInt8} {k : Nat} (h : (SL.getD k cd0).fam ≠ nm) : ofJ nm (k + 1) = ofJ nm k := by
  unfold ofJ
  rw [List.range_succ, List.filter_append]
  simp only [List.filter_cons, List.filter_nil, decide_eq_false h, if_false, List.append_nil, Bool.false_eq_true]
theorem ofJ_le (nm : List UInt8) (k : Nat) : (ofJ nm k).length ≤ k := by
  have h := List.length_filter_le (fun j => decide ((SL.getD j cd0).fam = nm)) (List.range k)
  rw [List.length_range] at h
  exact h
theorem ofJ_lt {nm : List UInt8} {k j : Nat} (h : j ∈ ofJ nm k) : j < k := List.mem_range.1 (List.mem_filter.1 h).1
def ofL (nm : List UInt8) : List Cd := if nm ∈ Fams then pkL SL (ofJ nm 22) else []
theorem pick_rows {w : World} {b n b' c c' : Nat} {A A' : Option Addr} {R : List Sl} {js : List Nat} (ho : w.ownsRow b 27 7 (.slice A n c) n (KC.rows (pkL SL js) (pkR R js))) (hn : n = js.length) (hR : RowsOwn KC w b' A' 22 c' SL R) (hj : ∀ j ∈ js, j < 22) : Ro.RowsIn KC w A n (pkL SL js) (pkR R js) := by
  refine ⟨by simp [pkL, hn], by simp [pkL, pkR], own_cells ho, fun i hi => ?_⟩
  have hi' : i < js.length := by omega
  rw [show KC.z = cd0 from rfl, pkR_at _ _ _ hi', pkL_at _ _ _ hi']
  refine hR.rows.2.2.2 _ (hj _ ?_)
  rw [List.getD_eq_getElem?_getD, List.getElem?_eq_getElem hi']
  exact List.getElem_mem _
theorem look_fams (nm : List UInt8) : lookT (tabsI 5) nm = [] ↔ nm ∉ Fams := by
  rw [tabs5]
  have e1 : Rm.Ct.tab ≠ [] := by decide +kernel
  have e2 : Rm.Vt.tab ≠ [] := by decide +kernel
  have e3 : Rm.Bt.tab ≠ [] := by decide +kernel
  have e4 : Rm.St.tab ≠ [] := by decide +kernel
  have e5 : Rm.Rt.tab ≠ [] := by decide +kernel
  simp only [lookT, Fams, List.mem_cons, List.not_mem_nil, or_false, not_or]
  by_cases h1 : crystalN = nm
  · rw [if_pos h1]; exact ⟨fun h => absurd h e1, fun h => absurd h1.symm h.1⟩
  · rw [if_neg h1]
    by_cases h2 : supplyN = nm
    · rw [if_pos h2]; exact ⟨fun h => absurd h e2, fun h => absurd h2.symm h.2.1⟩
    · rw [if_neg h2]
      by_cases h3 : busN = nm
      · rw [if_pos h3]; exact ⟨fun h => absurd h e3, fun h => absurd h3.symm h.2.2.1⟩
      · rw [if_neg h3]
        by_cases h4 : sensorN = nm
        · rw [if_pos h4]; exact ⟨fun h => absurd h e4, fun h => absurd h4.symm h.2.2.2.1⟩
        · rw [if_neg h4]
          by_cases h5 : radioN = nm
          · rw [if_pos h5]; exact ⟨fun h => absurd h e5, fun h => absurd h5.symm h.2.2.2.2⟩
          · rw [if_neg h5]; exact ⟨fun _ => ⟨fun h => h1 h.symm, fun h => h2 h.symm, fun h => h3 h.symm, fun h => h4 h.symm, fun h => h5 h.symm⟩, fun _ => rfl⟩
def OfPost (nm : List UInt8) (w : World) (e : Ending) (w' : World) : Prop :=
  ∃ A c R, e = .returned (.tuple #[.slice A (ofL nm).length c, .int .i64 (if nm ∈ Fams then 0 else 6)]) ∧ Ro.RowsIn KC w' A (ofL nm).length (ofL nm) R ∧ Below w.heap.size w w'
theorem of_none (nm : List UInt8) (hm : nm ∉ Fams) {w w' : World} (hb : Below w.heap.size w w') : OfPost nm w (.returned (.tuple #[.slice none 0 0, .int .i64 6])) w' := by
  have h : ofL nm = [] := if_neg hm
  refine ⟨none, 0, [], by rw [h, if_neg hm]; rfl, ?_, hb⟩
  rw [h]
  exact ⟨rfl, rfl, ⟨rfl, .inl rfl⟩, fun i hi => absurd hi (Nat.not_lt_zero i)⟩
theorem of_some (nm : List UInt8) (hm : nm ∈ Fams) {w w' : World} {b b' c c' : Nat} {A A' : Option Addr} {R : List Sl} (ho : w'.ownsRow b 27 7 (.slice A (ofJ nm 22).length c) (ofJ nm 22).length (KC.rows (pkL SL (ofJ nm 22)) (pkR R (ofJ nm 22)))) (hR : RowsOwn KC w' b' A' 22 c' SL R) (hb : Below w.heap.size w w') :
    OfPost nm w (.returned (.tuple #[.slice A (ofJ nm 22).length c, .int .i64 0])) w' := by
  have h : ofL nm = pkL SL (ofJ nm 22) := if_pos hm
  have hl : (ofL nm).length = (ofJ nm 22).length := by rw [h]; simp [pkL]
  refine ⟨A, c, pkR R (ofJ nm 22), by rw [hl, if_pos hm], ?_, hb⟩
  rw [hl, h]
  exact pick_rows ho rfl hR (fun j hj => ofJ_lt hj)
set_option maxRecDepth 100000 in
set_option maxHeartbeats 8000000 in
theorem refOf_any (nm : List UInt8) (w : World) : Calls Tryd.prog 12 #[.string (str nm)] w (OfPost nm w) := by
  have HN := Lib.hid (refNums_any nm w)
  have HC := Lib.hid refCards_any
  unfold NumsPost at HN
  by_cases hm : nm ∈ Fams
  · rw [if_neg (fun h => (look_fams nm).1 h hm)] at HN
    have HQF := Lib.hid (fun k => eq_lists (SL.getD k cd0).fam nm)
    have HM := Lib.hid hm
    clear hm
    generalize str nm = X at HQF HN ⊢
    go_enter Tryd.func12, Tryd.ntmps12
    go_wp2_with fail
    refine HN.out.mono ?_
    rintro e w1 ⟨⟨ra, rn, rc⟩, rfl, _, _, hb1⟩
    have B1 := Lib.hid hb1
    simp only [slV]
    clear hb1 HN
    go_wp2_with fail
    refine (HC.out _).mono ?_
    rintro e w2 ⟨A, c, R, rfl, hr, hb⟩
    have HR := Lib.hid hr
    have B2 := Lib.hid (bt B1.out hb)
    clear hr hb B1 HC
    go_wp2_with fail
    go_loopw [7, 8] (fun v7 v8 wr => ∃ (k : Nat) (A7 : Option Addr) (c7 : Nat), k ≤ 22 ∧ v8 = .int .i64 (k : Nat) ∧ v7 = .slice A7 (ofJ nm k).length c7 ∧ wr.ownsRow w2.heap.size 27 7 (.slice A7 (ofJ nm k).length c7) (ofJ nm k).length (KC.rows (pkL SL (ofJ nm k)) (pkR R (ofJ nm k))) ∧ Below w2.heap.size w2 wr) (fun _ v8 _ => 22 - (RowKit.intOf v8).toNat)
    case atStart => exact ⟨0, none, 0, by omega, rfl, rfl, own_nilK w2 _ _ _, Below.refl _ _⟩
    case round =>
      obtain ⟨k, A7, c7, hk, rfl, rfl, ho, hbw⟩ := hrel
      have O7 := Lib.hid ho
      have BW := Lib.hid hbw
      clear ho hbw
      by_cases hlt : k < 22
      · have k1 : (0 : Int) ≤ (k : Int) := by omega
        have k2 : (k : Int) < 22 := by omega
        have hlen := ofJ_le nm k
        obtain ⟨b, o, rfl, hbs, hc, _, _⟩ := (HR.out.below BW.out).rows.at hlt
        have e0 : wr.cell? ⟨b, o + k * 7, none⟩ = some (.string (str (SL.getD k cd0).name)) := hc 0 _ rfl
        have e1 : wr.cell? ⟨b, o + k * 7 + 1, none⟩ = some (.string (str (SL.getD k cd0).fam)) := hc 1 _ rfl
        have e2 : wr.cell? ⟨b, o + k * 7 + 2, none⟩ = some (.int .u8 (SL.getD k cd0).level) := hc 2 _ rfl
        have e3 : wr.cell? ⟨b, o + k * 7 + 3, none⟩ = some (slV (R.getD k sl0)) := hc 3 _ rfl
        have e4 : wr.cell? ⟨b, o + k * 7 + 4, none⟩ = some (.int .i8 (SL.getD k cd0).score) := hc 4 _ rfl
        have e5 : wr.cell? ⟨b, o + k * 7 + 5, none⟩ = some (.string (str (SL.getD k cd0).quirk)) := hc 5 _ rfl
        have e6 : wr.cell? ⟨b, o + k * 7 + 6, none⟩ = some (.int .i16 (SL.getD k cd0).entry) := hc 6 _ rfl
        have q0 := HQF.out k
        have HS : Hid (KC.rows (pkL SL (ofJ nm k)) (pkR R (ofJ nm k)) ++ [.string (str (SL.getD k cd0).name), .string (str (SL.getD k cd0).fam), .int .u8 (SL.getD k cd0).level, slV (R.getD k sl0), .int .i8 (SL.getD k cd0).score, .string (str (SL.getD k cd0).quirk), .int .i16 (SL.getD k cd0).entry] = KC.rows (pkL SL (ofJ nm k ++ [k])) (pkR R (ofJ nm k ++ [k]))) := Lib.hid (pk_snoc SL R (ofJ nm k) k)
        have HYES := Lib.hid (fun h => ofJ_yes (nm := nm) (k := k) h)
        have HNO := Lib.hid (fun h => ofJ_no (nm := nm) (k := k) h)
        clear hc hbs
        generalize SL.getD k cd0 = d at e0 e1 e2 e3 e4 e5 e6 HS q0 HYES HNO
        generalize R.getD k sl0 = r at e3 HS
        obtain ⟨ra, rn, rc⟩ := r
        obtain ⟨dn, df, dl, dc, ds, dq, de⟩ := d
        simp only [slV] at e3 HS
        dsimp only at e0 e1 e2 e4 e5 e6 HS q0 HYES HNO
        by_cases hf : df = nm
        · rw [decide_eq_true hf] at q0
          have HJ := Lib.hid (HYES.out hf)
          clear HYES HNO hf
          generalize str dn = D0 at e0 HS
          generalize str df = D1 at e1 HS q0
          generalize str dq = D5 at e5 HS
          go_wp2_with (at_builtin; go_must (refine wpList_append_apartK (o := ⟨some 37, _, _, _, _, _⟩) rfl (.tmp 31) (.tmp 36) 31 rfl w2.heap.size 27 (.agg #[.string ⟨#[]⟩, .string ⟨#[]⟩, .int .u8 0, .slice none 0 0, .int .i8 0, .string ⟨#[]⟩, .int .i16 0]) 7 96 (by omega) Tryd.underlying31 info_cd rfl _ (ofJ nm k).length (KC.rows (pkL SL (ofJ nm k)) (pkR R (ofJ nm k))) rfl (own_belowK O7.out (grows' wr _)) ⟨wr.heap.size, 0, none⟩ 1 1 [.string D0, .string D1, .int .u8 dl, .slice ra rn rc, .int .i8 ds, .string D5, .int .i16 de] rfl (by omega) rfl (fun j u hu => by rw [Ro.add_plain, World.cell?_alloc_at _ _ _ _ (by simp), Nat.zero_add]; simpa using hu) (by intro u hu; simp at hu; rcases hu with rfl | rfl | rfl | rfl | rfl | rfl | rfl <;> rfl) (by omega) (by omega) (by have := BW.out.size; simp; omega) ?_); intro v9 w9 ho9 hg9 hf9; rw [HS.out] at ho9; obtain ⟨A9, c9, rfl, _⟩ := own_srcK ho9; have HO9 := Lib.hid ho9; have HB9 := Lib.hid ((BW.out.alloc BW.out.size _).grown hg9 (by have := BW.out.size; simp; omega) (fun g hg => (O7.out.lt g hg).1)); clear ho9 hg9 hf9)
          go_roundw
          case rel =>
            refine ⟨k + 1, A9, c9, by omega, by go_num, by rw [HJ.out]; simp, ?_, HB9.out⟩
            rw [HJ.out, List.length_append, List.length_singleton]
            exact HO9.out
          case measure => simp [RowKit.intOf]; omega
        · rw [decide_eq_false hf] at q0
          have HJ := Lib.hid (HNO.out hf)
          clear HYES HNO hf
          go_wp2_with fail
          go_roundw
          case rel => exact ⟨k + 1, A7, c7, by omega, by go_num, by rw [HJ.out], by rw [HJ.out]; exact O7.out, BW.out⟩
          case measure => simp [RowKit.intOf]; omega
      · obtain rfl : k = 22 := by omega
        have HFIN := Lib.hid (of_some nm HM.out (w := w) O7.out (HR.out.below BW.out) (bt B2.out BW.out))
        go_wp2_with fail
        go_ret2
        exact HFIN.out
  · rw [if_pos ((look_fams nm).2 hm)] at HN
    have HF := Lib.hid (fun w' (h : Below w.heap.size w w') => of_none nm hm h)
    clear hm
    generalize str nm = X at HN ⊢
    go_enter Tryd.func12, Tryd.ntmps12
    go_wp2_with fail
    refine HN.out.mono ?_
    rintro e w1 ⟨⟨ra, rn, rc⟩, rfl, _, _, hb1⟩
    have HFIN := Lib.hid (HF.out w1 hb1)
    simp only [slV]
    clear hb1 HN HF
    go_wp2_with fail
    go_ret2
    exact HFIN.out
end Go.Proofs.YtmlfnihicocilaaDoor.Kq
