/- What a shelf tells: told, Cards, Refused, Notes. -/
import Derived.Test.YtmlfnihicocilaaKrB
namespace Go.Proofs.Ytmlfnihicocilaa.Kr
open Go.ChangeShapes Go.WideShapes Go.ChangeAt Go.RowKit Own Ro wordsNames Kc

theorem map_fst_at (C : Cs) (k : Nat) (h : k < C.length) : (C.map (·.1)).getD k cd0 = (C.getD k zc).1 := by
  rw [List.getD_eq_getElem?_getD, List.getD_eq_getElem?_getD, List.getElem?_map, List.getElem?_eq_getElem h]
  rfl
set_option maxRecDepth 100000 in
set_option maxHeartbeats 8000000 in
theorem told_any (g off : Nat) (pre post : List Value) (C : Cs) (w : World) (hW : Blk w g (pre ++ (roomV C ++ post))) (hpre : pre.length = off) (_hoff : off ≤ 4096) (h64 : C.length ≤ 64) (hm : ∀ k, MildC 1099511627776 (C.getD k zc).1) (hT : TxAll w g C) :
    Calls Try.prog 25 #[.pointer (some ⟨g, off, none⟩)] w (MadeL (C.map (·.1)) w) := by
  have held : w.cell? ⟨g, off + 448, none⟩ = some (.int .i64 (C.length : Int)) := hW.cell (by rw [app_at' _ _ off 448 hpre]; exact app_in _ (room_held h64))
  have hgs := hW.lt
  have HC : Hid (∀ W, Below w.heap.size w W → ∀ i j u, i < C.length → (KC.row (C.getD i zc))[j]? = some u → W.cell? ⟨g, off + i * 7 + j, none⟩ = some u) := Lib.hid fun W hb i j u hi hu => by
    have hj : j < 7 := by rw [← rowC_len (C.getD i zc)]; exact (List.getElem?_eq_some_iff.1 hu).1
    refine (hb.cell (p := ⟨g, off + i * 7 + j, none⟩) hgs).trans (hW.cell ?_)
    rw [Nat.add_assoc, app_at' _ _ off _ hpre]
    exact app_in _ (app_in _ ((roomC_at C i j hi hj).trans hu))
  have HT := Lib.hid hT
  have HM := Lib.hid hm
  have HN : Hid (C.length = (C.map (·.1)).length) := Lib.hid (by simp)
  have HTK : Hid (∀ k, k < C.length → (C.map (·.1)).take (k + 1) = (C.map (·.1)).take k ++ [(C.getD k zc).1]) := Lib.hid fun k hk => by
    rw [takeS (C.map (·.1)) cd0 k (by simpa using hk), map_fst_at C k hk]
  clear hW hpre hT hm
  generalize hn : C.length = n at held h64 HC HN HTK
  have HCN := Lib.hid hn
  generalize C.map (·.1) = L at HN HTK ⊢
  clear hn
  have n1 : (0 : Int) ≤ (n : Int) := by omega
  have n2 : (n : Int) ≤ 64 := by omega
  go_enter Try.func25, Try.ntmps25
  go_wp2_with fail
  go_region
  all_goals
    have HB1 := Lib.hid (below_dr (Below.refl w.heap.size w) 1)
    clear held
    go_wp2_with fail
    go_loopw [3, 15] (fun v3 v15 wr => ∃ (k : Nat) (R : List Sl), k ≤ n ∧ v15 = .int .i64 k ∧ (∃ A1 c1, v3 = .slice A1 k c1 ∧ Ro.RowsOwn KC wr w.heap.size A1 k c1 (L.take k) R) ∧ Below w.heap.size w wr) (fun _ v15 _ => n - (RowKit.intOf v15).toNat)
    case atStart => exact ⟨0, [], Nat.zero_le _, rfl, ⟨none, 0, rfl, rfl, own_nilK _ _ _ _, InnOwn.nil _ _⟩, HB1.out⟩
    case round =>
      clear HB1
      obtain ⟨k, R, hk, rfl, ⟨A1, c1, rfl, hro⟩, hbw⟩ := hrel
      have HRO := Lib.hid hro
      have HB := Lib.hid hbw
      have hsz := hbw.size
      clear hro hbw
      by_cases hlt : k < n
      · have e0 := HC.out wr HB.out k 0 _ hlt rfl
        have e1 := HC.out wr HB.out k 1 _ hlt rfl
        have e2 := HC.out wr HB.out k 2 _ hlt rfl
        have e3 := HC.out wr HB.out k 3 _ hlt rfl
        have e4 := HC.out wr HB.out k 4 _ hlt rfl
        have e5 := HC.out wr HB.out k 5 _ hlt rfl
        have e6 := HC.out wr HB.out k 6 _ hlt rfl
        replace e0 : wr.cell? ⟨g, off + k * 7, none⟩ = some (.string (str (C.getD k zc).1.name)) := e0
        replace e1 : wr.cell? ⟨g, off + k * 7 + 1, none⟩ = some (.string (str (C.getD k zc).1.fam)) := e1
        replace e2 : wr.cell? ⟨g, off + k * 7 + 2, none⟩ = some (.int .u8 (C.getD k zc).1.level) := e2
        replace e3 : wr.cell? ⟨g, off + k * 7 + 3, none⟩ = some (slV (C.getD k zc).2) := e3
        replace e4 : wr.cell? ⟨g, off + k * 7 + 4, none⟩ = some (.int .i8 (C.getD k zc).1.score) := e4
        replace e5 : wr.cell? ⟨g, off + k * 7 + 5, none⟩ = some (.string (str (C.getD k zc).1.quirk)) := e5
        replace e6 : wr.cell? ⟨g, off + k * 7 + 6, none⟩ = some (.int .i16 (C.getD k zc).1.entry) := e6
        have HTK2 := Lib.hid (HTK.out k hlt)
        have hx := HT.out k (by rw [HCN.out]; exact hlt)
        have G1 : Hid (∀ o, Below w.heap.size w (wr.alloc o)) := Lib.hid fun o => bal HB.out rfl o
        have HKP := Lib.hid fun (W : World) (hW : Below w.heap.size w W) => kept_any (C.getD k zc).1 (C.getD k zc).2 W (HM.out k) hx.1 hx.2.2.1 (hx.2.1.below hW)
        have k1 : (0 : Int) ≤ (k : Int) := by omega
        have k2 : (k : Int) < (n : Int) := by omega
        clear hx
        generalize C.getD k zc = d at e0 e1 e2 e3 e4 e5 e6 HKP HTK2
        obtain ⟨⟨nm, fm, lv, cp, sc, qk, en⟩, ⟨ra, rn, rc⟩⟩ := d
        unfold MadeC at HKP
        simp only [slV, cardV, cells7] at e0 e1 e2 e3 e4 e5 e6 HKP
        go_wp2_with (first
          | (go_at_call 31; refine (HKP.out _ (G1.out _)).mono ?_; rintro e w1 ⟨A2, c2, n2, rfl, hn2, ho2, b2⟩; have O2 := Lib.hid (own_monoK ho2 (show wr.heap.size ≤ _ from (grows' wr _).size)); have hb1 := bt (grows' wr _) b2; have HN2 := Lib.hid hn2; clear ho2 b2 hn2)
          | (at_builtin; (refine wpList_append_srcK (o := ⟨some 23, _, _, _, _, _⟩) rfl (.tmp 19) (.tmp 22) 25 rfl w.heap.size 34 (.agg #[.string ⟨#[]⟩, .string ⟨#[]⟩, .int .u8 0, .slice none 0 0, .int .i8 0, .string ⟨#[]⟩, .int .i16 0]) 7 96 (by omega) Try.underlying25 info_card rfl _ k (KC.rows (L.take k) R) rfl (HRO.out.below (bal hb1 rfl _)).2.1 _ 1 1 [.string (str nm), .string (str fm), .int .u8 lv, .slice A2 n2 c2, .int .i8 sc, .string (str qk), .int .i16 en] rfl (src_new7 w1 _ _ rfl rfl) (by intro u hu; simp at hu; rcases hu with rfl | rfl | rfl | rfl | rfl | rfl | rfl <;> rfl) (by omega) (by omega) (bt HB.out (bal hb1 rfl _)).size ?_); intro v3 w3 ho3 hg3; obtain ⟨A3, c3, rfl, hr3⟩ := RowsOwn.snoc (r := (A2, n2, c2)) (d := ⟨nm, fm, lv, cp, sc, qk, en⟩) (HRO.out.below (bal hb1 rfl _)) HN2.out (own_belowK O2.out (grows' w1 _)) hsz HRO.out.2.2.lt hg3 ho3; have hb3 := RowsOwn.grown (HRO.out.below (bal hb1 rfl _)) (bt HB.out (bal hb1 rfl _)) (Nat.le_refl _) (bt HB.out (bal hb1 rfl _)).size hg3; rw [← HTK2.out] at hr3; have HR3 := Lib.hid hr3; clear ho3 hg3 hr3))
        go_roundw
        case rel => exact ⟨k + 1, _, by omega, by go_num, ⟨A3, c3, rfl, HR3.out⟩, hb3⟩
        case measure => simp [RowKit.intOf]; omega
      · obtain rfl : n = k := by omega
        have HTE : Hid (L.take n = L) := Lib.hid (by rw [HN.out, List.take_length])
        rw [HTE.out] at HRO
        go_wp2_with fail
        go_ret
        exact ⟨A1, c1, _, R, rfl, HRO.out, HB.out⟩
end Go.Proofs.Ytmlfnihicocilaa.Kr
