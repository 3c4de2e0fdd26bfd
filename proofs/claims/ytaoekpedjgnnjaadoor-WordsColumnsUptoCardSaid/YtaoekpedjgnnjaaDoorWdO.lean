/- The contract of columnsLine at clear rows. -/
import Derived.Test.YtaoekpedjgnnjaaDoorWdN
namespace Go.Proofs.YtaoekpedjgnnjaaDoor.Wd
open Go.ChangeShapes Go.WideShapes Go.ChangeAt Go.RowKit Own Bld Go.Lib Nums

/-- The first k things of a row, each in its width, before the blanks at the end go. -/
def accW (xs : List (List UInt8)) (ws : List Nat) : Nat → List UInt8
  | 0 => []
  | k + 1 => (if 0 < k then accW xs ws k ++ [32] else accW xs ws k) ++ fitL (xs.getD k []) (ws.getD k 0)
def lineW (xs : List (List UInt8)) (ws : List Nat) : List UInt8 := Lib.trimRightB (accW xs ws xs.length) 32
theorem fitL_len (l : List UInt8) (n : Nat) (h1 : 1 ≤ n) : (fitL l n).length = n := by
  unfold fitL
  split
  · rw [List.length_append, List.length_replicate]; omega
  · rw [List.length_append, List.length_take, List.length_singleton]; omega
theorem accW_len (xs : List (List UInt8)) (ws : List Nat) (h : ∀ k, k < xs.length → 1 ≤ ws.getD k 0 ∧ ws.getD k 0 ≤ 4096) : ∀ k, k ≤ xs.length → (accW xs ws k).length ≤ 4097 * k
  | 0, _ => by simp [accW]
  | k + 1, hk => by
    have ih := accW_len xs ws h k (by omega)
    have hw := h k (by omega)
    have hf := fitL_len (xs.getD k []) _ hw.1
    unfold accW
    split <;> simp only [List.length_append, List.length_singleton] <;> omega
theorem ints_at (ws : List Nat) (i : Nat) (h : i < ws.length) : (ws.map fun (x : Nat) => Value.int .i64 (x : Int))[i]? = some (.int .i64 (ws.getD i 0 : Nat)) := by
  rw [List.getElem?_map, List.getElem?_eq_getElem h, List.getD_eq_getElem?_getD, List.getElem?_eq_getElem h]
  rfl
theorem blank_any (B b : Nat) (l : List UInt8) (w : World) (h : Bd B b l w) (hlen : l.length + 1 ≤ 140737488355328) (hBw : B ≤ w.heap.size) :
    Calls Tryd.prog 18 #[.pointer (some ⟨b, 0, none⟩), .int .u8 32] w fun e w' => e = .returned .nilIface ∧ Wrote B b (l ++ [32]) w w' := byte_any B b l 32 w h hlen hBw

set_option maxRecDepth 100000 in
set_option maxHeartbeats 4000000 in
theorem columnsLine_any (A B : Option Addr) (c d n m : Nat) (xs : List (List UInt8)) (ws : List Nat) (w : World) (hn : n = xs.length) (hm : m = ws.length) (hnm : n ≤ m) (hx : n ≤ 64)
    (hc : ∀ k, k < n → Clear (str (xs.getD k [])) ∧ (str (xs.getD k [])).size ≤ 67108864) (hw : ∀ k, k < n → 1 ≤ ws.getD k 0 ∧ ws.getD k 0 ≤ 4096)
    (hA : Src w A n c (strs xs)) (hB : Src w B m d (ws.map fun (x : Nat) => Value.int .i64 (x : Int))) (hT : U8 w) :
    Calls Tryd.prog 17 #[.slice A n c, .slice B m d] w fun e w' => e = .returned (.string (str (lineW xs ws))) ∧ Below w.heap.size w w' := by
  have HT := Lib.hid hT
  have HC := Lib.hid hc
  have HW := Lib.hid hw
  have HN := Lib.hid hn
  have HM := Lib.hid hm
  have GA := Lib.hid hA
  have GB := Lib.hid hB
  have HL := Lib.hid (accW_len xs ws (by rw [← hn]; exact hw))
  clear hA hB hT hc hw hn hm
  go_enter Tryd.func17, Tryd.ntmps17
  go_wp2_with fail
  go_loopw [10] (fun i wr => ∃ k : Nat, k ≤ n ∧ i = .int .i64 k ∧ Bd w.heap.size w.heap.size (accW xs ws k) wr ∧ Below w.heap.size w wr) (fun i _ => n - (RowKit.intOf i).toNat)
  case atStart => exact ⟨0, by omega, rfl, Bd.fresh w, (Below.refl _ _).alloc (Nat.le_refl _) _⟩
  case round =>
    obtain ⟨k, hk, rfl, hbd, hbw⟩ := hrel
    have HBD := Lib.hid hbd
    have HBW := Lib.hid hbw
    have hsz := hbw.size
    clear hbd hbw
    by_cases hlt : k < n
    · obtain ⟨b, o, rfl, _, hc1⟩ := src_get' (GA.out.below HBW.out) (by omega)
      obtain ⟨b2, o2, rfl, _, hc2⟩ := src_get' (GB.out.below HBW.out) (by omega)
      have hkx : k < xs.length := by rw [← HN.out]; exact hlt
      have e1 := hc1 k _ (strs_at xs k hkx)
      have e2 : Hid (∀ w', Below w.heap.size w w' → w'.cell? ⟨b2, o2 + k, none⟩ = some (.int .i64 (ws.getD k 0 : Nat))) := Lib.hid fun w' hb => by
        obtain ⟨b3, o3, he, _, hc3⟩ := src_get' (GB.out.below hb) (by omega)
        injection he with he
        injection he with h1 h2
        subst h1; subst h2
        exact hc3 k _ (ints_at ws k (by rw [← HM.out]; omega))
      have hcc := HC.out k hlt
      have hww := HW.out k hlt
      have HLE := Lib.hid (HL.out k (by omega))
      have HLF := Lib.hid (fitL_len (xs.getD k []) (ws.getD k 0) hww.1)
      have HSTEP : Hid (accW xs ws (k + 1) = (if 0 < k then accW xs ws k ++ [32] else accW xs ws k) ++ fitL (xs.getD k []) (ws.getD k 0)) := Lib.hid rfl
      clear hc1 hc2 hkx
      have HFT := Lib.hid fun W (h : U8 W) => fit_any (str (xs.getD k [])) (ws.getD k 0) W hcc.2 hww.1 hww.2 hcc.1 h
      rw [str_list] at HFT
      generalize xs.getD k [] = x at e1 HSTEP HLF HFT
      generalize ws.getD k 0 = q at e2 HSTEP HLF HFT hww
      generalize accW xs ws k = acc at HBD HSTEP HLE
      clear hcc
      by_cases h0 : k = 0
      · have t0 : decide (0 < k) = false := decide_eq_false (by omega)
        have HIF : Hid (accW xs ws (k + 1) = acc ++ fitL x q) := Lib.hid (by rw [HSTEP.out, if_neg (by omega)])
        have e3 := e2.out _ HBW.out
        clear h0
        go_wp2_with fail
        refine (HFT.out _ (HT.out.below HBW.out)).mono ?_
        rintro e w3 ⟨rfl, b3⟩
        have D3 := Lib.hid (bd_below' HBD.out b3)
        have W3 := Lib.hid (HBW.out.trans (b3.mono hsz))
        have hsz3 := W3.out.size
        clear b3
        go_wp2_with fail
        refine (string_any w.heap.size w.heap.size acc (str (fitL x q)) _ D3.out (by rw [str_size, HLF.out]; have := HLE.out; omega) hsz3).mono ?_
        rintro e w4 ⟨rfl, d4, b4, _⟩
        have D4 := Lib.hid d4
        have W4 := Lib.hid (W3.out.trans b4)
        clear d4 b4
        go_wp2_with fail
        go_roundw
        case rel => exact ⟨k + 1, by omega, by go_num, by rw [HIF.out]; exact D4.out, W4.out⟩
        case measure => simp [RowKit.intOf]; omega
      · have t0 : decide (0 < k) = true := decide_eq_true (by omega)
        have HIF : Hid (accW xs ws (k + 1) = (acc ++ [32]) ++ fitL x q) := Lib.hid (by rw [HSTEP.out, if_pos (by omega)])
        clear h0
        go_wp2_with fail
        refine (blank_any w.heap.size w.heap.size acc _ HBD.out (by have := HLE.out; omega) hsz).mono ?_
        rintro e w2 ⟨rfl, d2, b2', _⟩
        have D2 := Lib.hid d2
        have W2 := Lib.hid (HBW.out.trans b2')
        have hsz2 := W2.out.size
        have e3 := e2.out _ W2.out
        clear d2 b2'
        go_wp2_with fail
        refine (HFT.out _ (HT.out.below W2.out)).mono ?_
        rintro e w3 ⟨rfl, b3⟩
        have D3 := Lib.hid (bd_below' D2.out b3)
        have W3 := Lib.hid (W2.out.trans (b3.mono hsz2))
        have hsz3 := W3.out.size
        clear b3
        go_wp2_with fail
        refine (string_any w.heap.size w.heap.size (acc ++ [32]) (str (fitL x q)) _ D3.out (by rw [str_size, HLF.out, List.length_append, List.length_singleton]; have := HLE.out; omega) hsz3).mono ?_
        rintro e w4 ⟨rfl, d4, b4, _⟩
        have D4 := Lib.hid d4
        have W4 := Lib.hid (W3.out.trans b4)
        clear d4 b4
        go_wp2_with fail
        go_roundw
        case rel => exact ⟨k + 1, by omega, by go_num, by rw [HIF.out]; exact D4.out, W4.out⟩
        case measure => simp [RowKit.intOf]; omega
    · obtain rfl : n = k := by omega
      have HV : Hid (lineW xs ws = Lib.trimRightB (accW xs ws n) 32) := Lib.hid (by unfold lineW; rw [← HN.out])
      have HLE := Lib.hid (HL.out n (by rw [← HN.out]; exact Nat.le_refl _))
      go_wp2_with fail
      refine (Tryd.Builder_String_any_k w.heap.size w.heap.size _ _ HBD.out hsz).mono ?_
      rintro e w3 ⟨rfl, _, b3, _⟩
      have W3 := Lib.hid (HBW.out.trans b3)
      clear b3
      generalize accW xs ws n = acc at HBD HV HLE ⊢
      go_wp2_with fail
      refine (Tryd.strings_TrimRight_one (str acc) 32 (by decide) _ (by rw [str_size]; have := HLE.out; omega)).mono ?_
      rintro e w4 ⟨rfl, rfl⟩
      go_wp2_with fail
      go_ret
      rw [HV.out]
      exact ⟨rfl, W3.out⟩
end Go.Proofs.YtaoekpedjgnnjaaDoor.Wd
