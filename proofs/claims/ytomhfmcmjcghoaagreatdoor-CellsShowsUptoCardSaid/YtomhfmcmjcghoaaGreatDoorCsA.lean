/- The contract of Show at every value. -/
import Derived.Test.YtomhfmcmjcghoaaGreatDoorCsM
namespace Go.Proofs.YtomhfmcmjcghoaaGreatDoor.Cl
open Go.ChangeShapes Go.WideShapes Go.ChangeAt Go.RowKit Own Bld Nums

theorem and15_8 : ∀ k : Fin 256, bits .and .u8 (k.val : Int) 15 = ((k.val % 16 : Nat) : Int) := by decide +kernel
theorem dgs_at : ∀ k : Fin 16, (⟨#[48, 49, 50, 51, 52, 53, 54, 55, 56, 57, 97, 98, 99, 100, 101, 102]⟩ : ByteArray)[k.val]'(k.isLt) = dg k.val := by decide +kernel
theorem writeByte_any (B b : Nat) (l : List UInt8) (c : UInt8) (w : World) (h : Bd B b l w) (hlen : l.length ≤ 1073741824) (hBw : B ≤ w.heap.size) :
    Calls Tryz.prog 28 #[.pointer (some ⟨b, 0, none⟩), .int .u8 (c.toNat : Int)] w fun e w' => e = .returned (.tuple #[]) ∧ Wrote B b (l ++ byteT c.toNat) w w' := by
  have HH := Lib.hid h
  clear h
  have hc : c.toNat < 256 := c.toNat_lt
  generalize c.toNat = n at hc
  have ha : bits .and .u8 (n : Int) 15 = ((n % 16 : Nat) : Int) := and15_8 ⟨n, hc⟩
  have h16 : n % 16 < 16 := by omega
  have d1 : (⟨#[48, 49, 50, 51, 52, 53, 54, 55, 56, 57, 97, 98, 99, 100, 101, 102]⟩ : ByteArray)[n / 16]'(by show n / 16 < 16; omega) = dg (n / 16) := dgs_at ⟨n / 16, by omega⟩
  have d2 : (⟨#[48, 49, 50, 51, 52, 53, 54, 55, 56, 57, 97, 98, 99, 100, 101, 102]⟩ : ByteArray)[n % 16]'(by show n % 16 < 16; omega) = dg (n % 16) := dgs_at ⟨n % 16, by omega⟩
  have D1 := Lib.hid d1
  have D2 := Lib.hid d2
  clear d1 d2
  go_enter Tryz.func28, Tryz.ntmps28
  go_wp2_with fail
  rw [D1.out]
  refine (byte_any B b l (dg (n / 16)) _ HH.out (by omega) hBw).mono ?_
  rintro e w1 ⟨rfl, e1, b1, k1⟩
  have E1 := Lib.hid e1
  have B1 := Lib.hid b1
  have K1 := Lib.hid k1
  have hz1 : B ≤ w1.heap.size := Nat.le_trans hBw b1.size
  clear e1 b1 k1
  go_wp2_with fail
  rw [D2.out]
  refine (byte_any B b _ (dg (n % 16)) _ E1.out (by simp; omega) hz1).mono ?_
  rintro e w2 ⟨rfl, e2, b2, k2⟩
  have E2 := Lib.hid e2
  have B2 := Lib.hid (B1.out.trans b2)
  have K2 := Lib.hid (K1.out.trans k2)
  clear e2 b2 k2
  go_wp2_with fail
  go_end0
  refine ⟨rfl, ?_, B2.out, K2.out⟩
  have h4 : l ++ byteT n = l ++ [dg (n / 16)] ++ [dg (n % 16)] := by simp [byteT]
  rw [h4]
  exact E2.out

theorem byteT_len (n : Nat) : (byteT n).length ≤ 2 := by simp [byteT]
theorem bs_at (l : List UInt8) (k : Nat) (h : k < l.length) : (Lib.byteCells l)[k]? = some (.int .u8 ((l.getD k 0).toNat : Int)) := by
  simp [Lib.byteCells, List.getElem?_eq_getElem h, List.getD_eq_getElem?_getD]

set_option maxHeartbeats 2000000 in
theorem listedBytes_any (A : Option Addr) (c n : Nat) (xs : List UInt8) (w : World) (hn : n = xs.length) (hnx : n ≤ 67108864) (hA : Src w A n c (Lib.byteCells xs)) :
    Calls Tryz.prog 27 #[.slice A n c, .string ⟨#[32]⟩, .func (.func 28) #[] #[]] w fun e w' => e = .returned (.string (str (jn [32] (fun i => byteT (xs.getD i 0).toNat) n))) ∧ Below w.heap.size w w' := by
  have HN := Lib.hid hn
  have GA := Lib.hid hA
  clear hn hA
  have HJ : Hid (∀ k, k ≤ n → (jn [32] (fun i => byteT (xs.getD i 0).toNat) k).length ≤ 536870912) := Lib.hid fun k hk => by
    have h := jn_len [32] (fun i => byteT (xs.getD i 0).toNat) 2 (fun i => byteT_len _) k
    have h2 : ([32] : List UInt8).length = 1 := rfl
    rw [h2] at h
    refine Nat.le_trans h (Nat.le_trans (Nat.mul_le_mul_right _ (Nat.le_trans hk hnx)) (by decide))
  go_enter Tryz.func27, Tryz.ntmps27
  go_wp2_with fail
  go_loopw [12] (fun i wr => ∃ k : Nat, k ≤ n ∧ i = .int .i64 k ∧ Bd w.heap.size w.heap.size (jn [32] (fun i => byteT (xs.getD i 0).toNat) k) wr ∧ Below w.heap.size w wr) (fun i _ => n - (intOf i).toNat)
  case atStart => exact ⟨0, by omega, rfl, Bd.fresh w, (Below.refl _ _).alloc (Nat.le_refl _) _⟩
  case round =>
    obtain ⟨k, hk, rfl, hbd, hbw⟩ := hrel
    have HBD := Lib.hid hbd
    have HBW := Lib.hid hbw
    have hsz := hbw.size
    clear hbd hbw
    have hjl := HJ.out k hk
    by_cases hlt : k < n
    · obtain ⟨b, o, rfl, hbl, hc1⟩ := src_get (GA.out.below HBW.out) (by omega)
      have hkx : k < xs.length := by rw [← HN.out]; exact hlt
      have e1 := hc1 k _ (bs_at xs k hkx)
      have HS : Hid (jn [32] (fun i => byteT (xs.getD i 0).toNat) (k + 1) = jn [32] (fun i => byteT (xs.getD i 0).toNat) k ++ (if k = 0 then [] else [32]) ++ byteT (xs.getD k 0).toNat) := Lib.hid rfl
      generalize xs.getD k 0 = x at e1 HS
      clear hc1 hkx
      by_cases hk0 : k = 0
      · subst hk0
        rw [Nat.add_zero] at e1
        go_wp2_with fail
        refine (writeByte_any w.heap.size w.heap.size _ x _ HBD.out (by omega) hsz).mono ?_
        rintro e w2 ⟨rfl, d2, b2, k2⟩
        have D2 := Lib.hid d2
        have W2 := Lib.hid (HBW.out.trans b2)
        clear d2 b2 k2
        go_wp2_with fail
        go_roundw
        case rel =>
          refine ⟨0 + 1, by omega, by go_num, ?_, W2.out⟩
          rw [HS.out]
          simp only [if_true, List.append_nil]
          exact D2.out
        case measure => simp [intOf]; omega
      · have hkp : 0 < k := by omega
        go_wp2_with fail
        refine (string_any w.heap.size w.heap.size _ ⟨#[32]⟩ _ HBD.out (by show _ + 1 ≤ _; omega) hsz).mono ?_
        rintro e w2 ⟨rfl, d2, b2, k2⟩
        have D2 := Lib.hid d2
        have W2 := Lib.hid (HBW.out.trans b2)
        have hz2 : w.heap.size ≤ w2.heap.size := W2.out.size
        clear d2 b2 k2
        go_wp2_with fail
        refine (writeByte_any w.heap.size w.heap.size _ x _ D2.out (by simp only [List.length_append]; show _ + 1 ≤ _; omega) hz2).mono ?_
        rintro e w3 ⟨rfl, d3, b3, k3⟩
        have D3 := Lib.hid d3
        have W3 := Lib.hid (W2.out.trans b3)
        clear d3 b3 k3
        go_wp2_with fail
        go_roundw
        case rel =>
          refine ⟨k + 1, by omega, by go_num, ?_, W3.out⟩
          rw [HS.out, if_neg hk0]
          exact D3.out
        case measure => simp [intOf]; omega
    · obtain rfl : n = k := by omega
      go_wp2_with fail
      refine (Tryz.Builder_String_any_k w.heap.size w.heap.size _ _ HBD.out hsz).mono ?_
      rintro e w3 ⟨rfl, _, b3, _⟩
      have W3 := Lib.hid (HBW.out.trans b3)
      clear b3
      go_wp2_with fail
      go_ret
      exact ⟨rfl, W3.out⟩

/-- How long what is shown is. -/
theorem jnq_len (xs : List ByteArray) : ∀ k, k ≤ xs.length → (jn [44, 32] (fun i => quoted (xs.getD i ByteArray.empty).data.toList) k).length ≤ 4 * (vT (xs.take k)).length := by
  intro k
  induction k with
  | zero => intro _; simp [jn]
  | succ k ih =>
    intro hk
    have h1 := ih (by omega)
    have h2 := escs_len (xs.getD k ByteArray.empty).data.toList
    rw [take_getS xs k (by omega), vT_snoc, jn]
    have hq : (quoted (xs.getD k ByteArray.empty).data.toList).length = ((xs.getD k ByteArray.empty).data.toList.flatMap esc).length + 2 := by simp [quoted]
    simp only [List.length_append, List.length_cons, List.length_nil, hq]
    have h3 : (if k = 0 then ([] : List UInt8) else [44, 32]).length ≤ 2 := by split <;> simp
    omega
theorem good_asc (l : List UInt8) (h : plainB l = true) : ∀ k i (hi : i < ((tx l).getD k ByteArray.empty).size), ((tx l).getD k ByteArray.empty)[i].toNat < 128 := by
  intro k i hi
  unfold plainB at h
  simp only [Bool.and_eq_true, Bool.not_eq_true', List.isEmpty_iff, List.isEmpty_eq_false_iff] at h
  have htx : tx l = (split [] l).1.map str := if_pos h.1.1
  by_cases hk : k < (tx l).length
  · have hm : (tx l).getD k ByteArray.empty ∈ tx l := by
      rw [List.getD_eq_getElem?_getD, List.getElem?_eq_getElem hk]
      exact List.getElem_mem hk
    generalize (tx l).getD k ByteArray.empty = s at hi hm
    rw [htx] at hm
    obtain ⟨t, ht, rfl⟩ := List.mem_map.1 hm
    have hg := List.all_eq_true.1 h.2 t ht
    unfold goodB at hg
    simp only [Bool.and_eq_true] at hg
    have hp := List.all_eq_true.1 hg.2
    have hmem : (str t)[i] ∈ t := Array.mem_toList_iff.2 (Array.getElem_mem (xs := (str t).data) hi)
    have := hp _ hmem
    unfold pr at this
    simp only [Bool.and_eq_true, decide_eq_true_eq] at this
    omega
  · have : (tx l).getD k ByteArray.empty = ByteArray.empty := by
      rw [List.getD_eq_getElem?_getD, List.getElem?_eq_none (by omega)]
      rfl
    rw [this] at hi
    exact absurd hi (by simp)
theorem show_len (l : List UInt8) : (showV l).length ≤ 4 * l.length + 2 := by
  unfold showV
  split
  · simp
  · split
    · have h1 := jnq_len (tx l) (tx l).length (Nat.le_refl _)
      have h2 := vT_tx l
      have h3 := vT_take (tx l) (tx l).length
      unfold textsT
      omega
    · split
      · have h := jn_len [32] (fun i => cellT ((c32 l).getD i 0)) 10 (fun i => by
          have hlt := c32_lt l i
          generalize (c32 l).getD i 0 = n at hlt
          have e : ∀ (f g n : Nat), n < 16 ^ (f + 1) → f ≤ g → (hx (g + 1) n).length ≤ f + 1 := by
            intro f
            induction f with
            | zero =>
              intro g n hn _
              rw [hx_last _ _ (by simpa using hn)]
              simp
            | succ f ih =>
              intro g n hn hfg
              by_cases h16 : n < 16
              · rw [hx_last _ _ h16]; simp
              · rw [hx_step _ _ h16]
                obtain ⟨g', rfl⟩ : ∃ g', g = g' + 1 := ⟨g - 1, by omega⟩
                have := ih g' (n / 16) (div_lt _ _ hn) (by omega)
                simp only [List.length_append, List.length_cons, List.length_nil]
                omega
          have : (hx 16 n).length ≤ 8 := e 7 15 n (by omega) (by omega)
          simp only [cellT, List.length_append, List.length_cons, List.length_nil]
          omega) (c32 l).length
        have h2 : (c32 l).length ≤ l.length / 4 := by
          unfold c32
          split
          · rw [chunk_len]; omega
          · simp
        have h3 : ([32] : List UInt8).length = 1 := rfl
        rw [h3] at h
        unfold cellsT
        simp only [List.length_append, List.length_cons, List.length_nil]
        omega
      · have h := jn_len [32] (fun i => byteT (l.getD i 0).toNat) 2 (fun i => byteT_len _) l.length
        have h3 : ([32] : List UInt8).length = 1 := rfl
        rw [h3] at h
        unfold bytesT
        simp only [List.length_append, List.length_cons, List.length_nil]
        omega
end Go.Proofs.YtomhfmcmjcghoaaGreatDoor.Cl
