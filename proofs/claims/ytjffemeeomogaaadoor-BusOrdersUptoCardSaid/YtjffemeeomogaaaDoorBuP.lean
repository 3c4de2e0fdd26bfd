/- Order (P10.4): the program's, of any list. -/
import Derived.Test.YtjffemeeomogaaaDoorBuO
import Derived.Laws.EntriesVeiled
namespace Go.Proofs.YtjffemeeomogaaaDoor.Bu
open Go.ChangeShapes Go.WideShapes Go.ChangeAt Go.RowKit Own Ro St

def ints (l : List Int) : List Value := l.map (.int .i64)
theorem ints_at (l : List Int) (i : Nat) (h : i < l.length) : (ints l)[i]? = some (.int .i64 (l.getD i 0)) := by
  unfold ints
  rw [List.getElem?_map, List.getElem?_eq_getElem h, List.getD_eq_getElem?_getD, List.getElem?_eq_getElem h]
  rfl
def plc (x : Int) : Prop := 0 ≤ x ∧ x < 20
/-- By what they are put in order. -/
def okey (down : Bool) (i : Int) : Int := if down = true then -(ent i) else ent i
theorem fe_map {α β : Type} {key : β → Int} {f : α → β} {l z : List α} (h : Fe (fun x => key (f x)) l z) : Fe key (l.map f) (z.map f) := fun k => by
  have := congrArg (List.map f) (h k)
  simpa [List.filter_map, Function.comp_def] using this
theorem srt_map {α β : Type} {key : β → Int} {f : α → β} {l : List α} (h : Srt (fun x => key (f x)) l) : Srt key (l.map f) := List.pairwise_map.2 h
set_option maxRecDepth 100000 in
set_option maxHeartbeats 8000000 in
theorem order_bad (A : Option Addr) (c n : Nat) (l : List Int) (down : Bool) (w : World) (hn : n = l.length) (hm : n ≤ 9223372036854775807) (hs : CellsIn w 1 A n (ints l)) (hbad : 4096 < n ∨ ∃ i, i < n ∧ ¬ plc (l.getD i 0)) :
    Calls Tryd.prog 39 #[.slice A n c, .bool down] w fun e w' => e = .returned (.tuple #[.slice none 0 0, .int .i64 1]) ∧ w' = w := by
  have HN := Lib.hid hn
  have GA := Lib.hid hs
  have HB := Lib.hid hbad
  clear hn hs hbad
  by_cases hbig : 4096 < n
  · have b1 : (4096 : Int) < (n : Int) := by omega
    go_enter Tryd.func39, Tryd.ntmps39
    go_wp2_with fail
    go_ret2
    exact ⟨rfl, rfl⟩
  · have b1 : ¬ (4096 : Int) < (n : Int) := by omega
    go_enter Tryd.func39, Tryd.ntmps39
    go_wp2_with fail
    go_loop [15] (fun v15 => ∃ k : Nat, k ≤ n ∧ v15 = .int .i64 (k : Int) ∧ Hid (∀ i, i < k → plc (l.getD i 0))) (fun v15 => n - (RowKit.intOf v15).toNat)
    case atStart => exact ⟨0, by omega, rfl, Lib.hid fun i hi => absurd hi (by omega)⟩
    case round =>
      obtain ⟨k, hk, rfl, HK⟩ := hrel
      by_cases hlt : k < n
      · have l1 : (0 : Int) ≤ (k : Int) := by omega
        have l2 : (k : Int) < (n : Int) := by omega
        obtain ⟨b, o, rfl, hbs, hc1⟩ := GA.out.at (by omega)
        have e0 := hc1 k _ (ints_at l k (by rw [← HN.out]; exact hlt))
        have HS := Lib.hid (fun (h : plc (l.getD k 0)) => show ∀ i, i < k + 1 → plc (l.getD i 0) from fun i hi => by
          by_cases e : i = k
          · rw [e]; exact h
          · exact HK.out i (by omega))
        clear hc1
        generalize l.getD k 0 = x at e0 HS
        have HP := Lib.hid (isPlace_any x w)
        by_cases hx : 0 ≤ x ∧ x < 20
        · have HX := Lib.hid (HS.out hx)
          rw [decide_eq_true hx] at HP
          clear hx
          go_wp2_with fail
          refine HP.out.mono ?_
          rintro e w1 ⟨rfl, rfl⟩
          go_wp2_with fail
          go_round
          case rel => exact ⟨k + 1, by omega, by go_num, HX⟩
          case measure => simp [RowKit.intOf]; omega
        · rw [decide_eq_false hx] at HP
          clear hx
          go_wp2_with fail
          refine HP.out.mono ?_
          rintro e w1 ⟨rfl, rfl⟩
          go_wp2_with fail
          go_ret2
          exact ⟨rfl, rfl⟩
      · obtain rfl : n = k := by omega
        exfalso
        rcases HB.out with h | ⟨i, hi, hp⟩
        · omega
        · exact hp (HK.out i hi)
theorem fins (l : List Int) (h : ∀ i, i < l.length → plc (l.getD i 0)) : ∃ L : List (Fin 20), L.map numF = l := by
  induction l with
  | nil => exact ⟨[], rfl⟩
  | cons x l ih =>
    obtain ⟨L, hL⟩ := ih fun i hi => h (i + 1) (by simpa using hi)
    have hx : plc x := h 0 (by simp)
    exact ⟨⟨x.toNat, by unfold plc at hx; omega⟩ :: L, by rw [List.map_cons, hL]; congr 1; unfold numF plc at *; simp; omega⟩
theorem ints_num (L : List (Fin 20)) : ints (L.map numF) = L.map (enc numF) := by unfold ints; rw [List.map_map]; rfl
set_option maxRecDepth 100000 in
set_option maxHeartbeats 8000000 in
theorem order_ok (A : Option Addr) (c n : Nat) (l : List Int) (down : Bool) (w : World) (hT : Tb w) (hn : n = l.length) (hm : n ≤ 4096) (hs : CellsIn w 1 A n (ints l)) (hok : ∀ i, i < n → plc (l.getD i 0)) :
    Calls Tryd.prog 39 #[.slice A n c, .bool down] w fun e w' => ∃ (g : Nat) (Z : List Int), e = .returned (.tuple #[.slice (some ⟨g, 0, none⟩) n n, .int .i64 0]) ∧ w.heap.size ≤ g ∧ Fe (okey down) l Z ∧ Srt (okey down) Z ∧ Z.length = n ∧ w'.ownsRow w.heap.size 3 1 (.slice (some ⟨g, 0, none⟩) n n) n (ints Z) ∧ Below w.heap.size w w' := by
  obtain ⟨L, hL⟩ := fins l (by rw [← hn]; exact hok)
  have hLn : n = L.length := by rw [hn, ← hL, List.length_map]
  have HN := Lib.hid hn
  have GA := Lib.hid hs
  have HK := Lib.hid hok
  have HT := Lib.hid hT
  have HF := Lib.hid hL
  have HLN := Lib.hid hLn
  clear hn hs hok hT hL hLn
  have b1 : ¬ (4096 : Int) < (n : Int) := by omega
  go_enter Tryd.func39, Tryd.ntmps39
  go_wp2_with fail
  go_loop [15] (fun v15 => ∃ k : Nat, k ≤ n ∧ v15 = .int .i64 (k : Int)) (fun v15 => n - (RowKit.intOf v15).toNat)
  case atStart => exact ⟨0, by omega, rfl⟩
  case round =>
    obtain ⟨k, hk, rfl⟩ := hrel
    by_cases hlt : k < n
    · have l1 : (0 : Int) ≤ (k : Int) := by omega
      have l2 : (k : Int) < (n : Int) := by omega
      obtain ⟨b, o, rfl, hbs, hc1⟩ := GA.out.at (by omega)
      have e0 := hc1 k _ (ints_at l k (by rw [← HN.out]; exact hlt))
      have HX := Lib.hid (HK.out k hlt)
      clear hc1
      generalize l.getD k 0 = x at e0 HX
      have HP := Lib.hid (isPlace_any x w)
      have hx2 : 0 ≤ x ∧ x < 20 := HX.out
      rw [decide_eq_true hx2] at HP
      clear hx2
      go_wp2_with fail
      refine HP.out.mono ?_
      rintro e w1 ⟨rfl, rfl⟩
      go_wp2_with fail
      go_round
      case rel => exact ⟨k + 1, by omega, by go_num⟩
      case measure => simp [RowKit.intOf]; omega
    · obtain rfl : n = k := by omega
      clear hk hlt
      have HB := Lib.hid (show Below w.heap.size w (w.alloc (.cells #[.func (.func 64) #[] #[]] 138)) from grows' w _)
      have HC := Lib.hid (show (w.alloc (.cells #[.func (.func 64) #[] #[]] 138)).cell? ⟨w.heap.size, 0, none⟩ = some (.func (.func 64) #[] #[]) from by rw [Lib.cell_of_heap (heap_alloc_new w _)]; rfl)
      have HSZ := Lib.hid (show (w.alloc (.cells #[.func (.func 64) #[] #[]] 138)).heap.size = w.heap.size + 1 by simp)
      cases down with
      | true =>
        have HLI := Lib.hid (lined_any numF (fun x => okey true (numF x)) (fun x y => cmpI (ent (numF y)) (ent (numF x))) 66 #[.pointer (some ⟨w.heap.size, 0, none⟩)] A c n L _ (enters_of Tryd.func66 (by kernel_rfl) rfl) HLN.out (by omega)
          (by have := GA.out.below HB.out; rwa [← HF.out, ints_num] at this)
          (fun V hV x y => falling_any (numF x) (numF y) w.heap.size V (HT.out.below (bt HB.out hV)) (numF_bd x) (numF_bd y) (by rw [hV.cell (p := ⟨w.heap.size, 0, none⟩) (by show w.heap.size < _; rw [HSZ.out]; omega)]; exact HC.out))
          (fun x y => by rw [cmpI_lt]; unfold okey; simp only [if_true]; omega))
        go_wp2_with fail
        refine HLI.out.mono ?_
        rintro e w2 ⟨Z, rfl, h1, h2, h3, h4, h5⟩
        have H1 := Lib.hid h1
        have H2 := Lib.hid h2
        have H3 := Lib.hid h3
        have H4 := Lib.hid h4
        have H5 := Lib.hid h5
        clear h1 h2 h3 h4 h5
        go_wp2_with fail
        go_ret2
        refine ⟨_, Z.map numF, rfl, by omega, by rw [← HF.out]; exact fe_map H1.out, srt_map H2.out, by rw [List.length_map]; exact H3.out, ?_, bt HB.out H5.out⟩
        rw [ints_num]
        have := own_monoK H4.out HB.out.size
        rw [HSZ.out] at this
        exact this
      | false =>
        have HLI := Lib.hid (lined_any numF (fun x => okey false (numF x)) (fun x y => cmpI (ent (numF x)) (ent (numF y))) 64 #[] A c n L (w.alloc (.cells #[.func (.func 64) #[] #[]] 138)) (enters_of Tryd.func64 (by kernel_rfl) rfl) HLN.out (by omega)
          (by have := GA.out.below HB.out; rwa [← HF.out, ints_num] at this)
          (fun V hV x y => rising_any (numF x) (numF y) V (HT.out.below (bt HB.out hV)) (numF_bd x) (numF_bd y))
          (fun x y => by rw [cmpI_lt]; unfold okey; simp))
        go_wp2_with fail
        refine HLI.out.mono ?_
        rintro e w2 ⟨Z, rfl, h1, h2, h3, h4, h5⟩
        have H1 := Lib.hid h1
        have H2 := Lib.hid h2
        have H3 := Lib.hid h3
        have H4 := Lib.hid h4
        have H5 := Lib.hid h5
        clear h1 h2 h3 h4 h5
        go_wp2_with fail
        go_ret2
        refine ⟨_, Z.map numF, rfl, by omega, by rw [← HF.out]; exact fe_map H1.out, srt_map H2.out, by rw [List.length_map]; exact H3.out, ?_, bt HB.out H5.out⟩
        rw [ints_num]
        have := own_monoK H4.out HB.out.size
        rw [HSZ.out] at this
        exact this
end Go.Proofs.YtjffemeeomogaaaDoor.Bu
