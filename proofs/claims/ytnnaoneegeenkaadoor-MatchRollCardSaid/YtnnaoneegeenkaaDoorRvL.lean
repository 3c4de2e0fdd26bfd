/- The cards of a family, the program's; the document's entry. -/
import Derived.Test.YtnnaoneegeenkaaDoorRvK
namespace Go.Proofs.YtnnaoneegeenkaaDoor.Kq
open Go.ChangeShapes Go.WideShapes Go.ChangeAt Go.RowKit Own Ro wordsNames Kc
open Ka (i64s i64s_len i64s_at)
open Rm (Fams crystalN supplyN busN sensorN radioN families_any)

theorem fams_has (nm : List UInt8) : decide (nm ∈ Fams) = true ↔ ∃ j, j < 5 ∧ Fams.getD j [] = nm := by
  rw [decide_eq_true_eq]
  constructor
  · intro h
    obtain ⟨j, hj, he⟩ := List.getElem_of_mem h
    exact ⟨j, hj, by rw [List.getD_eq_getElem?_getD, List.getElem?_eq_getElem hj]; exact he⟩
  · rintro ⟨j, hj, rfl⟩
    rw [List.getD_eq_getElem?_getD, List.getElem?_eq_getElem (show j < Fams.length from hj)]
    exact List.getElem_mem _
set_option maxRecDepth 100000 in
set_option maxHeartbeats 8000000 in
theorem rOf_any (nm : List UInt8) (w : World) : Calls Tryd.prog 13 #[.string (str nm)] w (OfPost nm w) := by
  have HC := Lib.hid rCards_any
  have HFA := Lib.hid (families_any w)
  have HHS := Lib.hid (has_any w.heap.size 0 5 5 5 Fams nm (decide (nm ∈ Fams)) (w.alloc (.cells #[.string (str crystalN), .string (str supplyN), .string (str busN), .string (str sensorN), .string (str radioN)] 9)) rfl (by omega) (Nat.le_refl _) (fun j u hu => by
    rw [World.cell?_alloc_at _ _ _ _ rfl, Nat.zero_add]
    simpa [Kc.strs, Fams] using hu) (fams_has nm))
  have B1 := Lib.hid (grows' w (.cells #[.string (str crystalN), .string (str supplyN), .string (str busN), .string (str sensorN), .string (str radioN)] 9))
  generalize hw1 : w.alloc (.cells #[.string (str crystalN), .string (str supplyN), .string (str busN), .string (str sensorN), .string (str radioN)] 9) = w1 at HFA HHS B1
  clear hw1
  by_cases hm : nm ∈ Fams
  · have HQF := Lib.hid (fun k => eq_lists (SL.getD k cd0).fam nm)
    have HM := Lib.hid hm
    rw [decide_eq_true hm] at HHS
    clear hm
    generalize str nm = X at HQF HHS ⊢
    go_enter Tryd.func13, Tryd.ntmps13
    go_wp2_with fail
    refine HFA.out.mono ?_
    rintro e w1' ⟨rfl, rfl⟩
    go_wp2_with fail
    refine HHS.out.mono ?_
    rintro e w1'' ⟨rfl, rfl⟩
    clear HFA HHS
    go_wp2_with fail
    refine (HC.out _).mono ?_
    rintro e w2 ⟨A, c, R, rfl, hr, hb⟩
    have HR := Lib.hid hr
    have B2 := Lib.hid (bt B1.out hb)
    clear hr hb B1 HC
    go_wp2_with fail
    go_loopw [4, 13] (fun v4 v13 wr => ∃ (k : Nat) (A7 : Option Addr) (c7 : Nat), k ≤ 22 ∧ v13 = .int .i64 (k : Nat) ∧ v4 = .slice A7 (ofJ nm k).length c7 ∧ wr.ownsRow w2.heap.size 30 7 (.slice A7 (ofJ nm k).length c7) (ofJ nm k).length (KC.rows (pkL SL (ofJ nm k)) (pkR R (ofJ nm k))) ∧ Below w2.heap.size w2 wr) (fun _ v13 _ => 22 - (RowKit.intOf v13).toNat)
    case atStart => exact ⟨0, none, 0, by omega, rfl, rfl, own_nilK w2 _ _ _, Below.refl _ _⟩
    case round =>
      obtain ⟨k, A7, c7, hk, rfl, rfl, ho, hbw⟩ := hrel
      have O7 := Lib.hid ho
      have BW := Lib.hid hbw
      clear ho hbw
      by_cases hlt : k < 22
      · have k1 : (0 : Int) ≤ (k : Int) := by omega
        have k2 : (k : Int) < 22 := by omega
        have hlen := ofJ_le nm k
        obtain ⟨b, o, rfl, hbs, hc, _, _⟩ := (HR.out.below BW.out).rows.at hlt
        have e0 : wr.cell? ⟨b, o + k * 7, none⟩ = some (.string (str (SL.getD k cd0).name)) := hc 0 _ rfl
        have e1 : wr.cell? ⟨b, o + k * 7 + 1, none⟩ = some (.string (str (SL.getD k cd0).fam)) := hc 1 _ rfl
        have e2 : wr.cell? ⟨b, o + k * 7 + 2, none⟩ = some (.int .u8 (SL.getD k cd0).level) := hc 2 _ rfl
        have e3 : wr.cell? ⟨b, o + k * 7 + 3, none⟩ = some (slV (R.getD k sl0)) := hc 3 _ rfl
        have e4 : wr.cell? ⟨b, o + k * 7 + 4, none⟩ = some (.int .i8 (SL.getD k cd0).score) := hc 4 _ rfl
        have e5 : wr.cell? ⟨b, o + k * 7 + 5, none⟩ = some (.string (str (SL.getD k cd0).quirk)) := hc 5 _ rfl
        have e6 : wr.cell? ⟨b, o + k * 7 + 6, none⟩ = some (.int .i16 (SL.getD k cd0).entry) := hc 6 _ rfl
        have q0 := HQF.out k
        have HS : Hid (KC.rows (pkL SL (ofJ nm k)) (pkR R (ofJ nm k)) ++ [.string (str (SL.getD k cd0).name), .string (str (SL.getD k cd0).fam), .int .u8 (SL.getD k cd0).level, slV (R.getD k sl0), .int .i8 (SL.getD k cd0).score, .string (str (SL.getD k cd0).quirk), .int .i16 (SL.getD k cd0).entry] = KC.rows (pkL SL (ofJ nm k ++ [k])) (pkR R (ofJ nm k ++ [k]))) := Lib.hid (pk_snoc SL R (ofJ nm k) k)
        have HYES := Lib.hid (fun h => ofJ_yes (nm := nm) (k := k) h)
        have HNO := Lib.hid (fun h => ofJ_no (nm := nm) (k := k) h)
        clear hc hbs
        generalize SL.getD k cd0 = d at e0 e1 e2 e3 e4 e5 e6 HS q0 HYES HNO
        generalize R.getD k sl0 = r at e3 HS
        obtain ⟨ra, rn, rc⟩ := r
        obtain ⟨dn, df, dl, dc, ds, dq, de⟩ := d
        simp only [slV] at e3 HS
        dsimp only at e0 e1 e2 e4 e5 e6 HS q0 HYES HNO
        by_cases hf : df = nm
        · rw [decide_eq_true hf] at q0
          have HJ := Lib.hid (HYES.out hf)
          clear HYES HNO hf
          generalize str dn = D0 at e0 HS
          generalize str df = D1 at e1 HS q0
          generalize str dq = D5 at e5 HS
          have B3 := Lib.hid (bal (grows' wr (.cells #[.string D0, .string D1, .int .u8 dl, .slice ra rn rc, .int .i8 ds, .string D5, .int .i16 de] 30)) rfl (.cells #[.string D0, .string D1, .int .u8 dl, .slice ra rn rc, .int .i8 ds, .string D5, .int .i16 de] 30))
          go_wp2_with (at_builtin; go_must (refine wpList_append_apartK (o := ⟨some 24, _, _, _, _, _⟩) rfl (.tmp 21) (.tmp 23) 23 rfl w2.heap.size 30 (.agg #[.string ⟨#[]⟩, .string ⟨#[]⟩, .int .u8 0, .slice none 0 0, .int .i8 0, .string ⟨#[]⟩, .int .i16 0]) 7 96 (by omega) Tryd.underlying23 info_cd rfl _ (ofJ nm k).length (KC.rows (pkL SL (ofJ nm k)) (pkR R (ofJ nm k))) rfl (own_belowK O7.out B3.out) ⟨wr.heap.size + 1, 0, none⟩ 1 1 [.string D0, .string D1, .int .u8 dl, .slice ra rn rc, .int .i8 ds, .string D5, .int .i16 de] rfl (by omega) rfl (fun j u hu => by rw [Ro.add_plain, World.cell?_alloc_at _ _ _ _ (by simp), Nat.zero_add]; simpa using hu) (by intro u hu; simp at hu; rcases hu with rfl | rfl | rfl | rfl | rfl | rfl | rfl <;> rfl) (by omega) (by omega) (by have := BW.out.size; simp; omega) ?_); intro v9 w9 ho9 hg9 hf9; rw [HS.out] at ho9; obtain ⟨A9, c9, rfl, _⟩ := own_srcK ho9; have HO9 := Lib.hid ho9; have HB9 := Lib.hid ((bt BW.out B3.out).grown hg9 (bt BW.out B3.out).size (fun g hg => (O7.out.lt g hg).1)); clear ho9 hg9 hf9)
          go_roundw
          case rel =>
            refine ⟨k + 1, A9, c9, by omega, by go_num, by rw [HJ.out]; simp, ?_, HB9.out⟩
            rw [HJ.out, List.length_append, List.length_singleton]
            exact HO9.out
          case measure => simp [RowKit.intOf]; omega
        · rw [decide_eq_false hf] at q0
          have HJ := Lib.hid (HNO.out hf)
          clear HYES HNO hf
          generalize str dn = D0 at e0 HS
          generalize str df = D1 at e1 HS q0
          generalize str dq = D5 at e5 HS
          have B2' := Lib.hid (grows' wr (.cells #[.string D0, .string D1, .int .u8 dl, .slice ra rn rc, .int .i8 ds, .string D5, .int .i16 de] 30))
          go_wp2_with fail
          go_roundw
          case rel => exact ⟨k + 1, A7, c7, by omega, by go_num, by rw [HJ.out], by rw [HJ.out]; exact own_belowK O7.out B2'.out, bt BW.out B2'.out⟩
          case measure => simp [RowKit.intOf]; omega
      · obtain rfl : k = 22 := by omega
        have HFIN := Lib.hid (of_some nm HM.out (w := w) O7.out (HR.out.below BW.out) (bt B2.out BW.out))
        go_wp2_with fail
        go_ret2
        exact HFIN.out
  · have HF := Lib.hid (of_none nm hm B1.out)
    rw [decide_eq_false hm] at HHS
    clear hm
    generalize str nm = X at HHS ⊢
    go_enter Tryd.func13, Tryd.ntmps13
    go_wp2_with fail
    refine HFA.out.mono ?_
    rintro e w1' ⟨rfl, rfl⟩
    go_wp2_with fail
    refine HHS.out.mono ?_
    rintro e w1'' ⟨rfl, rfl⟩
    clear HFA HHS
    go_wp2_with fail
    go_ret2
    exact HF.out
/-- The number that a card points to. -/
def EntV (d : Cd) (er : Int) : Int × Int := if er = 0 ∧ 0 ≤ d.entry then ((lookT (tabsI 5) d.fam).getD d.entry.toNat 0, 0) else (0, 6)
def EntPost (nm : List UInt8) (w : World) (e : Ending) (w' : World) : Prop := ∃ d er, FindRel nm d er ∧ e = .returned (.tuple #[.int .i64 (EntV d er).1, .int .i64 (EntV d er).2]) ∧ Below w.heap.size w w'
theorem SL_ent : ∀ k < 22, (SL.getD k cd0).fam ∈ Fams ∧ (0 ≤ (SL.getD k cd0).entry → (SL.getD k cd0).entry.toNat < (lookT (tabsI 5) (SL.getD k cd0).fam).length) := by
  rw [tabs5]
  decide +kernel
theorem ent_mem {d : Cd} (h : d ∈ SL) : d.fam ∈ Fams ∧ (0 ≤ d.entry → d.entry.toNat < (lookT (tabsI 5) d.fam).length) := by
  obtain ⟨k, hk, rfl⟩ := SL_at h
  exact SL_ent k hk
end Go.Proofs.YtnnaoneegeenkaaDoor.Kq
