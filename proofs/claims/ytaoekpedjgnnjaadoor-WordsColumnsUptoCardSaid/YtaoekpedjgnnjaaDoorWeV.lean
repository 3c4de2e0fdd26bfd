/- The contracts of fit and Fit at every text, of columnsLine and Columns at every row. -/
import Derived.Test.YtaoekpedjgnnjaaDoorWeU
import Derived.Test.YtaoekpedjgnnjaaDoorWdQ
import Derived.Deep.OwnRows
namespace Go.Proofs.YtaoekpedjgnnjaaDoor.Wd
open Go.ChangeShapes Go.WideShapes Go.ChangeAt Go.RowKit Own Bld Go.Lib Nums

theorem head_len (l : List UInt8) (n : Nat) : (((tokW l).take n).flatten).length ≤ 4 * n := by
  have h := flat_len ((tokW l).take n) fun q hq => (toks l).2.1 q (List.mem_of_mem_take hq)
  rw [List.length_take] at h
  omega
theorem fitW_len (l : List UInt8) (n : Nat) (h1 : 1 ≤ n) : (fitW l n).length ≤ 4 * n := by
  unfold fitW
  split
  · rename_i h
    have h2 := flat_len (tokW l) (toks l).2.1
    rw [(toks l).1, (toks l).2.2] at h2
    rw [List.length_append, List.length_replicate]
    omega
  · have := head_len l (n - 1)
    rw [List.length_append, List.length_singleton]
    omega

set_option maxRecDepth 100000 in
set_option maxHeartbeats 2000000 in
theorem fit_all (s : ByteArray) (n : Nat) (w : World) (hs : s.size ≤ 16777216) (h1 : 1 ≤ n) (hn : n ≤ 4096) (hT : U8 w) :
    Calls Tryd.prog 31 #[.string s, .int .i64 (n : Int)] w fun e w' => e = .returned (.string (str (fitW s.data.toList n))) ∧ Below w.heap.size w w' := by
  have HT := Lib.hid hT
  have hz : s.data.toList.length = s.size := rfl
  have hsl := showW_len _ s.data.toList (Nat.le_refl _)
  have hwl := widthW_len _ s.data.toList (Nat.le_refl _)
  have HW := Lib.hid fun W (h : U8 W) => width_any s W (by omega) h
  have HS := Lib.hid fun W (h : U8 W) => show_any s W (by omega) h
  by_cases hle : widthW s.data.toList ≤ n
  · have HV : Hid (fitW s.data.toList n = showW s.data.toList ++ List.replicate (n - widthW s.data.toList) 32) := Lib.hid (by unfold fitW; rw [if_pos hle])
    generalize widthW s.data.toList = d at hle hwl HW HV
    generalize showW s.data.toList = sh at hsl HS HV
    have hsz : (str sh).size ≤ 67108864 := by rw [str_size]; omega
    have t0 : decide ((n : Int) - (d : Int) < 0) = false := decide_eq_false (by omega)
    have HN : Hid ((n : Int) - (d : Int) = ((n - d : Nat) : Int)) := Lib.hid (by omega)
    have HR : Hid ((⟨(Lib.repeatL (⟨#[32]⟩ : ByteArray).data.toList (n - d)).toArray⟩ : ByteArray) = str (List.replicate (n - d) 32)) := Lib.hid (by
      have h := Lib.repeatL_replicate 32 1 (n - d)
      rw [Nat.mul_one] at h
      exact congrArg str h)
    have hk : n - d ≤ 4096 := by omega
    have HA := Lib.hid (app_str sh (List.replicate (n - d) 32))
    have hps : (str (List.replicate (n - d) 32)).size ≤ 4096 := by rw [str_size, List.length_replicate]; omega
    clear hz hT hsl
    go_enter Tryd.func31, Tryd.ntmps31
    go_wp2_with fail
    refine (HW.out _ HT.out).mono ?_
    rintro e w1 ⟨rfl, b1⟩
    have B1 := Lib.hid b1
    clear b1
    go_wp2_with fail
    refine (HS.out _ (HT.out.below B1.out)).mono ?_
    rintro e w2 ⟨rfl, b2⟩
    have B2 := Lib.hid (B1.out.trans (b2.mono B1.out.size))
    clear b2
    go_wp2_with fail
    rw [HN.out]
    refine (Tryd.strings_Repeat ⟨#[32]⟩ (n - d) _ (by omega) (by show 1 * _ ≤ _; omega)).mono ?_
    rintro e w3 ⟨rfl, b3⟩
    have B3 := Lib.hid (B2.out.trans (b3.mono B2.out.size))
    clear b3
    rw [HR.out]
    generalize str (List.replicate (n - d) 32) = P at HA hps ⊢
    generalize str sh = Q at HA hsz ⊢
    go_wp2_with fail
    go_ret
    rw [HV.out]
    exact ⟨ret_str HA.out, B3.out⟩
  · have HV : Hid (fitW s.data.toList n = ((tokW s.data.toList).take (n - 1)).flatten ++ [126]) := Lib.hid (by unfold fitW; rw [if_neg hle])
    have HH := Lib.hid fun W (h : U8 W) => shownHead_all s (n - 1) W (by omega) (by omega) h
    have hhl := head_len s.data.toList (n - 1)
    generalize widthW s.data.toList = d at hle hwl HW
    generalize ((tokW s.data.toList).take (n - 1)).flatten = hd' at hhl HH HV
    have hd2 : d ≤ 67108864 := by omega
    have t0 : decide ((n : Int) - (d : Int) < 0) = true := decide_eq_true (by omega)
    have HN : Hid ((n : Int) - 1 = ((n - 1 : Nat) : Int)) := Lib.hid (by omega)
    have HA := Lib.hid (app_str hd' [126])
    have hps : (str hd').size ≤ 16384 := by rw [str_size]; omega
    clear hz hT hsl
    go_enter Tryd.func31, Tryd.ntmps31
    go_wp2_with fail
    refine (HW.out _ HT.out).mono ?_
    rintro e w1 ⟨rfl, b1⟩
    have B1 := Lib.hid b1
    clear b1
    go_wp2_with fail
    rw [HN.out]
    refine (HH.out _ (HT.out.below B1.out)).mono ?_
    rintro e w2 ⟨rfl, b2⟩
    have B2 := Lib.hid (B1.out.trans (b2.mono B1.out.size))
    clear b2
    generalize str hd' = P at HA hps ⊢
    go_wp2_with fail
    go_ret
    rw [HV.out]
    exact ⟨ret_str HA.out, B2.out⟩

/-- The first k things of a row, each in its width, before the blanks at the end go. -/
def accA (xs : List (List UInt8)) (ws : List Nat) : Nat → List UInt8
  | 0 => []
  | k + 1 => (if 0 < k then accA xs ws k ++ [32] else accA xs ws k) ++ fitW (xs.getD k []) (ws.getD k 0)
def lineA (xs : List (List UInt8)) (ws : List Nat) : List UInt8 := Lib.trimRightB (accA xs ws xs.length) 32
theorem accA_len (xs : List (List UInt8)) (ws : List Nat) (h : ∀ k, k < xs.length → 1 ≤ ws.getD k 0 ∧ ws.getD k 0 ≤ 4096) : ∀ k, k ≤ xs.length → (accA xs ws k).length ≤ 16385 * k
  | 0, _ => by simp [accA]
  | k + 1, hk => by
    have ih := accA_len xs ws h k (by omega)
    have hw := h k (by omega)
    have hf := fitW_len (xs.getD k []) _ hw.1
    unfold accA
    split <;> simp only [List.length_append, List.length_singleton] <;> omega
set_option maxRecDepth 100000 in
set_option maxHeartbeats 4000000 in
theorem columnsLine_all (A B : Option Addr) (c d n m : Nat) (xs : List (List UInt8)) (ws : List Nat) (w : World) (hn : n = xs.length) (hm : m = ws.length) (hnm : n ≤ m) (hx : n ≤ 64)
    (hc : ∀ k, k < n → (str (xs.getD k [])).size ≤ 16777216) (hw : ∀ k, k < n → 1 ≤ ws.getD k 0 ∧ ws.getD k 0 ≤ 4096)
    (hA : Src w A n c (strs xs)) (hB : Src w B m d (ws.map fun (x : Nat) => Value.int .i64 (x : Int))) (hT : U8 w) :
    Calls Tryd.prog 17 #[.slice A n c, .slice B m d] w fun e w' => e = .returned (.string (str (lineA xs ws))) ∧ Below w.heap.size w w' := by
  have HT := Lib.hid hT
  have HC := Lib.hid hc
  have HW := Lib.hid hw
  have HN := Lib.hid hn
  have HM := Lib.hid hm
  have GA := Lib.hid hA
  have GB := Lib.hid hB
  have HL := Lib.hid (accA_len xs ws (by rw [← hn]; exact hw))
  clear hA hB hT hc hw hn hm
  go_enter Tryd.func17, Tryd.ntmps17
  go_wp2_with fail
  go_loopw [10] (fun i wr => ∃ k : Nat, k ≤ n ∧ i = .int .i64 k ∧ Bd w.heap.size w.heap.size (accA xs ws k) wr ∧ Below w.heap.size w wr) (fun i _ => n - (RowKit.intOf i).toNat)
  case atStart => exact ⟨0, by omega, rfl, Bd.fresh w, (Below.refl _ _).alloc (Nat.le_refl _) _⟩
  case round =>
    obtain ⟨k, hk, rfl, hbd, hbw⟩ := hrel
    have HBD := Lib.hid hbd
    have HBW := Lib.hid hbw
    have hsz := hbw.size
    clear hbd hbw
    by_cases hlt : k < n
    · obtain ⟨b, o, rfl, _, hc1⟩ := src_get' (GA.out.below HBW.out) (by omega)
      obtain ⟨b2, o2, rfl, _, hc2⟩ := src_get' (GB.out.below HBW.out) (by omega)
      have hkx : k < xs.length := by rw [← HN.out]; exact hlt
      have e1 := hc1 k _ (strs_at xs k hkx)
      have e2 : Hid (∀ w', Below w.heap.size w w' → w'.cell? ⟨b2, o2 + k, none⟩ = some (.int .i64 (ws.getD k 0 : Nat))) := Lib.hid fun w' hb => by
        obtain ⟨b3, o3, he, _, hc3⟩ := src_get' (GB.out.below hb) (by omega)
        injection he with he
        injection he with h1 h2
        subst h1; subst h2
        exact hc3 k _ (ints_at ws k (by rw [← HM.out]; omega))
      have hcc := HC.out k hlt
      have hww := HW.out k hlt
      have HLE := Lib.hid (HL.out k (by omega))
      have HLF := Lib.hid (fitW_len (xs.getD k []) (ws.getD k 0) hww.1)
      have HSTEP : Hid (accA xs ws (k + 1) = (if 0 < k then accA xs ws k ++ [32] else accA xs ws k) ++ fitW (xs.getD k []) (ws.getD k 0)) := Lib.hid rfl
      clear hc1 hc2 hkx
      have HFT := Lib.hid fun W (h : U8 W) => fit_all (str (xs.getD k [])) (ws.getD k 0) W hcc hww.1 hww.2 h
      rw [str_list] at HFT
      generalize xs.getD k [] = x at e1 HSTEP HLF HFT
      generalize ws.getD k 0 = q at e2 HSTEP HLF HFT hww
      generalize accA xs ws k = acc at HBD HSTEP HLE
      clear hcc
      by_cases h0 : k = 0
      · have t0 : decide (0 < k) = false := decide_eq_false (by omega)
        have HIF : Hid (accA xs ws (k + 1) = acc ++ fitW x q) := Lib.hid (by rw [HSTEP.out, if_neg (by omega)])
        have e3 := e2.out _ HBW.out
        clear h0
        go_wp2_with fail
        refine (HFT.out _ (HT.out.below HBW.out)).mono ?_
        rintro e w3 ⟨rfl, b3⟩
        have D3 := Lib.hid (bd_below' HBD.out b3)
        have W3 := Lib.hid (HBW.out.trans (b3.mono hsz))
        have hsz3 := W3.out.size
        clear b3
        go_wp2_with fail
        refine (string_any w.heap.size w.heap.size acc (str (fitW x q)) _ D3.out (by rw [str_size]; have := HLE.out; have := HLF.out; omega) hsz3).mono ?_
        rintro e w4 ⟨rfl, d4, b4, _⟩
        have D4 := Lib.hid d4
        have W4 := Lib.hid (W3.out.trans b4)
        clear d4 b4
        go_wp2_with fail
        go_roundw
        case rel => exact ⟨k + 1, by omega, by go_num, by rw [HIF.out]; exact D4.out, W4.out⟩
        case measure => simp [RowKit.intOf]; omega
      · have t0 : decide (0 < k) = true := decide_eq_true (by omega)
        have HIF : Hid (accA xs ws (k + 1) = (acc ++ [32]) ++ fitW x q) := Lib.hid (by rw [HSTEP.out, if_pos (by omega)])
        clear h0
        go_wp2_with fail
        refine (blank_any w.heap.size w.heap.size acc _ HBD.out (by have := HLE.out; omega) hsz).mono ?_
        rintro e w2 ⟨rfl, d2, b2', _⟩
        have D2 := Lib.hid d2
        have W2 := Lib.hid (HBW.out.trans b2')
        have hsz2 := W2.out.size
        have e3 := e2.out _ W2.out
        clear d2 b2'
        go_wp2_with fail
        refine (HFT.out _ (HT.out.below W2.out)).mono ?_
        rintro e w3 ⟨rfl, b3⟩
        have D3 := Lib.hid (bd_below' D2.out b3)
        have W3 := Lib.hid (W2.out.trans (b3.mono hsz2))
        have hsz3 := W3.out.size
        clear b3
        go_wp2_with fail
        refine (string_any w.heap.size w.heap.size (acc ++ [32]) (str (fitW x q)) _ D3.out (by rw [str_size, List.length_append, List.length_singleton]; have := HLE.out; have := HLF.out; omega) hsz3).mono ?_
        rintro e w4 ⟨rfl, d4, b4, _⟩
        have D4 := Lib.hid d4
        have W4 := Lib.hid (W3.out.trans b4)
        clear d4 b4
        go_wp2_with fail
        go_roundw
        case rel => exact ⟨k + 1, by omega, by go_num, by rw [HIF.out]; exact D4.out, W4.out⟩
        case measure => simp [RowKit.intOf]; omega
    · obtain rfl : n = k := by omega
      have HV : Hid (lineA xs ws = Lib.trimRightB (accA xs ws n) 32) := Lib.hid (by unfold lineA; rw [← HN.out])
      have HLE := Lib.hid (HL.out n (by rw [← HN.out]; exact Nat.le_refl _))
      go_wp2_with fail
      refine (Tryd.Builder_String_any_k w.heap.size w.heap.size _ _ HBD.out hsz).mono ?_
      rintro e w3 ⟨rfl, _, b3, _⟩
      have W3 := Lib.hid (HBW.out.trans b3)
      clear b3
      generalize accA xs ws n = acc at HBD HV HLE ⊢
      go_wp2_with fail
      refine (Tryd.strings_TrimRight_one (str acc) 32 (by decide) _ (by rw [str_size]; have := HLE.out; omega)).mono ?_
      rintro e w4 ⟨rfl, rfl⟩
      go_wp2_with fail
      go_ret
      rw [HV.out]
      exact ⟨rfl, W3.out⟩

/-- A row that columnsLine takes. -/
def RowAll (w : World) (m : Nat) (r : Option Addr × Nat × Nat) (x : List (List UInt8)) : Prop :=
  r.2.1 = x.length ∧ r.2.1 ≤ m ∧ Src w r.1 r.2.1 r.2.2 (strs x) ∧ ∀ k, k < r.2.1 → (str (x.getD k [])).size ≤ 16777216

set_option maxRecDepth 100000 in
set_option maxHeartbeats 4000000 in
theorem columns_all (A B : Option Addr) (c d n m : Nat) (R : List (Option Addr × Nat × Nat)) (X : List (List (List UInt8))) (ws : List Nat) (w : World) (hn : n = R.length) (hm : m = ws.length) (hm64 : m ≤ 64) (hnx : n ≤ 16777216)
    (hw : ∀ k, k < m → 1 ≤ ws.getD k 0 ∧ ws.getD k 0 ≤ 4096) (hr : ∀ k, k < n → RowAll w m (R.getD k (none, 0, 0)) (X.getD k []))
    (hA : Src w A n c (slcs R)) (hB : Src w B m d (ws.map fun (x : Nat) => Value.int .i64 (x : Int))) (hT : U8 w) :
    Calls Tryd.prog 7 #[.slice A n c, .slice B m d] w fun e w' => e = .returned (.tuple #[.slice (some ⟨w.heap.size, 0, none⟩) n n, .int .i64 0]) ∧ w'.rowIs w.heap.size 9 n (fun k => .string (str (lineA (X.getD k []) ws))) ∧ Below w.heap.size w w' := by
  have HW := Lib.hid hw
  have HR := Lib.hid hr
  have HN := Lib.hid hn
  have HM := Lib.hid hm
  have GA := Lib.hid hA
  have GB := Lib.hid hB
  have HT := Lib.hid hT
  have HAC := Lib.hid (areColumns_yes A B c d n m R ws w hn hm hm64 (by omega) hw (fun k hk => (hr k hk).2.1) hA hB)
  have hmk := run_make_row' (P := Tryd.prog) 25 9 (.string ByteArray.empty) 16 rfl info_str rfl .i64 .i64 n (by omega) (by omega)
  clear hA hB hw hr hn hm hT
  go_enter Tryd.func7, Tryd.ntmps7
  go_wp2_with fail
  refine HAC.out.mono ?_
  rintro e w1 ⟨rfl, hw1⟩
  replace hw1 := hw1.symm
  subst hw1
  go_wp2_with fail
  clear hmk
  go_loopw [18] (fun i wr => ∃ j : Nat, j ≤ n ∧ i = .int .i64 j ∧ wr.rowIs w.heap.size 9 n (fun k => if k < j then .string (str (lineA (X.getD k []) ws)) else .string ByteArray.empty) ∧ Below w.heap.size w wr) (fun i _ => n - (RowKit.intOf i).toNat)
  case atStart => exact ⟨0, by omega, rfl, (World.rowIs_made w _ n _).congr (fun i _ => by rw [if_neg (by omega)]), (Below.refl _ _).alloc (Nat.le_refl _) _⟩
  case round =>
    obtain ⟨j, hj, rfl, hrow, hbw⟩ := hrel
    have HO := Lib.hid hrow
    have HB := Lib.hid hbw
    have hsz := hbw.size
    clear hrow hbw
    by_cases hlt : j < n
    · obtain ⟨b, o, rfl, hbl, hc1⟩ := src_get' (GA.out.below HB.out) (by omega)
      have e1 := hc1 j _ (slcs_at R j (by rw [← HN.out]; exact hlt))
      have hrr := HR.out j hlt
      generalize R.getD j (none, 0, 0) = r at e1 hrr
      obtain ⟨ra, rn, rc⟩ := r
      obtain ⟨h1, h2, h3, h4⟩ := hrr
      have HCL := Lib.hid (columnsLine_all ra B rc d rn m (X.getD j []) ws wr h1 HM.out h2 (by have : rn ≤ m := h2; omega) h4 (fun k hk => HW.out k (by have : rn ≤ m := h2; omega)) (h3.below HB.out) (GB.out.below HB.out) (HT.out.below HB.out))
      clear hc1 h1 h2 h3 h4
      go_wp2_with fail
      refine HCL.out.mono ?_
      rintro e w2 ⟨rfl, b2⟩
      have HO2 := Lib.hid (HO.out.of_block (b2.block _ HO.out.lt))
      have HB2 := Lib.hid (HB.out.trans (b2.mono hsz))
      have e2 := HO2.out.cell hlt
      have f2 := HO2.out.frozen j
      have HO3 := Lib.hid (HO2.out.set j (.string (str (lineA (X.getD j []) ws))))
      have HB3 := Lib.hid (HB2.out.setCell (p := ⟨w.heap.size, j, none⟩) (Nat.le_refl _) (.string (str (lineA (X.getD j []) ws))))
      clear b2
      go_wp2_with fail
      go_roundw
      case rel =>
        refine ⟨j + 1, by omega, by go_num, HO3.out.congr fun k _ => ?_, HB3.out⟩
        by_cases hkj : k = j
        · subst hkj
          rw [if_pos rfl, if_pos (by omega)]
        · rw [if_neg hkj]
          by_cases hk2 : k < j
          · rw [if_pos hk2, if_pos (by omega)]
          · rw [if_neg hk2, if_neg (by omega)]
      case measure => simp [RowKit.intOf]; omega
    · obtain rfl : n = j := by omega
      go_wp2_with fail
      go_ret2
      exact ⟨rfl, HO.out.congr fun k hk => (if_pos hk), HB.out⟩
end Go.Proofs.YtaoekpedjgnnjaaDoor.Wd
