/- The contracts of the writers of texts and cells, of the lists of them, and of Show where a value looks like texts or cells. -/
import Derived.Test.YtomhfmcmjcghoaaGreatDoorClJ
import Derived.Test.YtomhfmcmjcghoaaGreatDoorFmt
import Derived.Test.YtomhfmcmjcghoaaGreatDoorBld
namespace Go.Proofs.YtomhfmcmjcghoaaGreatDoor.Cl
open Go.ChangeShapes Go.WideShapes Go.ChangeAt Go.RowKit Own Bld Nums

def esc (c : UInt8) : List UInt8 := if c = 34 ∨ c = 92 then [92, c] else [c]
def quoted (t : List UInt8) : List UInt8 := 34 :: (t.flatMap esc ++ [34])
theorem esc_len (c : UInt8) : (esc c).length ≤ 2 := by unfold esc; split <;> simp
theorem escs_len : ∀ t : List UInt8, (t.flatMap esc).length ≤ 2 * t.length
  | [] => by simp
  | c :: t => by
    have h1 := esc_len c
    have h2 := escs_len t
    simp only [List.flatMap_cons, List.length_append, List.length_cons]
    omega
def AccIs (acc l : List UInt8) (s : ByteArray) (pos : Nat) : Prop := acc = l ++ [34] ++ (s.data.toList.take pos).flatMap esc
theorem acc_len {acc l : List UInt8} {s : ByteArray} {pos : Nat} (h : AccIs acc l s pos) (_ : pos ≤ s.size) : acc.length ≤ l.length + 1 + 2 * pos := by
  have h1 := escs_len (s.data.toList.take pos)
  have h2 : (s.data.toList.take pos).length ≤ pos := List.length_take_le _ _
  unfold AccIs at h
  rw [h]
  simp only [List.length_append, List.length_cons, List.length_nil]
  omega
theorem byte_z (B b : Nat) (l : List UInt8) (c : UInt8) (z : Int) (w : World) (hz : z = (c.toNat : Int)) (h : Bd B b l w) (hlen : l.length + 1 ≤ 140737488355328) (hBw : B ≤ w.heap.size) :
    Calls Tryz.prog 54 #[.pointer (some ⟨b, 0, none⟩), .int .u8 z] w fun e w' => e = .returned .nilIface ∧ Wrote B b (l ++ [c]) w w' := by
  subst hz
  exact byte_any B b l c w h hlen hBw
theorem others_iter {e : TypeId} {b : Nat} {w wr : World} (h : Lib.OthersKept e (some b) w wr) {k : Nat} (hk : w.heap.size ≤ k) (s : ByteArray) (pos : Nat) : Lib.OthersKept e (some b) w (wr.iterAt k s pos) :=
  fun j o hj h1 h2 => (Lib.iterAt_other wr k j s pos (by have := lt_heap hj; omega)).trans (h j o hj h1 h2)
theorem bd_lt {B b : Nat} {l : List UInt8} {w : World} (h : Bd B b l w) : b < w.heap.size := by
  rcases h with h | h
  · exact h.lt
  · exact h.lt

set_option maxHeartbeats 2000000 in
theorem writeText_any (B b : Nat) (l : List UInt8) (s : ByteArray) (w : World) (h : Bd B b l w) (hasc : ∀ i (hi : i < s.size), s[i].toNat < 128) (hs : s.size ≤ 67108864) (hlen : l.length ≤ 1073741824) (hBw : B ≤ w.heap.size) :
    Calls Tryz.prog 24 #[.pointer (some ⟨b, 0, none⟩), .string s] w fun e w' => e = .returned (.tuple #[]) ∧ Wrote B b (l ++ quoted s.data.toList) w w' := by
  have HH := Lib.hid h
  have HA := Lib.hid hasc
  clear h hasc
  go_enter Tryz.func24, Tryz.ntmps24
  go_wp2_with fail
  refine (byte_z B b l 34 34 _ rfl HH.out (by omega) hBw).mono ?_
  rintro e w1 ⟨rfl, d1, b1, k1⟩
  have D1 := Lib.hid d1
  have B1 := Lib.hid b1
  have K1 := Lib.hid k1
  have hz1 := b1.size
  have hbl := bd_lt D1.out
  clear d1 b1 k1
  go_wp2_with fail
  go_loopw [] (fun wr => ∃ (pos : Nat) (acc : List UInt8), pos ≤ s.size ∧ Bd B b acc wr ∧ wr.heap[w1.heap.size]? = some (.stringIter s pos) ∧ Below B w wr ∧ Lib.OthersKept 5 (some b) w wr ∧ AccIs acc l s pos) (fun wr => s.size - wr.iterPos w1.heap.size)
  case atStart =>
    refine ⟨0, l ++ [34], by omega, Lib.IsBuilderF.alloc D1.out _, ?_, B1.out.alloc (by omega) _, K1.out.alloc _, by simp [AccIs]⟩
    exact heap_alloc_new w1 _
  case round =>
    obtain ⟨pos, acc, hp, hbd, hit, hbw, hok, hacc⟩ := hrel
    have hal := acc_len hacc hp
    have HAC := Lib.hid hacc
    have HIT := Lib.hid hit
    have HBW := Lib.hid hbw
    have HOK := Lib.hid hok
    have HBD := Lib.hid hbd
    have hkr : w1.heap.size < wr.heap.size := lt_heap hit
    clear hacc hit hbw hok hbd
    by_cases hlt : pos < s.size
    · have hc := HA.out pos hlt
      have hnx : ∀ ty, (Instr.next (.pointer (some ⟨w1.heap.size, 0, none⟩)) true ty).run Tryz.prog wr = _ := fun ty => Lib.run_next_ascii_at wr w1.heap.size s pos ty HIT.out hlt hc
      have D2 : Hid (Bd B b acc (wr.iterAt w1.heap.size s (pos + 1))) := Lib.hid (Lib.IsBuilderF.iterAt HBD.out HIT.out (pos + 1))
      have hsz2 : B ≤ (wr.iterAt w1.heap.size s (pos + 1)).heap.size := by rw [Lib.iterAt_size]; omega
      have HTS := Lib.hid (take_snoc s pos hlt)
      have HNE : Hid (∀ acc', acc' = acc ++ esc s[pos] → AccIs acc' l s (pos + 1)) := Lib.hid fun acc' ha => by
        unfold AccIs
        have h1 : acc = l ++ [34] ++ (s.data.toList.take pos).flatMap esc := HAC.out
        rw [ha, h1, HTS.out]
        simp
      have I2 : Hid ((wr.iterAt w1.heap.size s (pos + 1)).heap[w1.heap.size]? = some (.stringIter s (pos + 1))) := Lib.hid (Lib.iterAt_heap wr w1.heap.size s pos (pos + 1) HIT.out)
      have W2 : Hid (Below B w (wr.iterAt w1.heap.size s (pos + 1))) := Lib.hid (Lib.below_iterAt HBW.out (k := w1.heap.size) (by omega) s (pos + 1))
      have O2 : Hid (Lib.OthersKept 5 (some b) w (wr.iterAt w1.heap.size s (pos + 1))) := Lib.hid (others_iter HOK.out (by omega) s (pos + 1))
      have hne : w1.heap.size ≠ b := by omega
      have hme : Hid (wr.iterPos w1.heap.size = pos) := Lib.hid (by simp only [World.iterPos, HIT.out])
      generalize wr.iterAt w1.heap.size s (pos + 1) = wi at hnx D2 hsz2 I2 W2 O2
      generalize hcc : s[pos] = c at hc hnx HNE
      clear hcc
      by_cases hq : c = 34 ∨ c = 92
      · have he : esc c = [92, c] := if_pos hq
        rw [he] at HNE
        have hcs : (((c.toNat : Int) == 34) = true ∧ ((c.toNat : Int) == 92) = false) ∨ (((c.toNat : Int) == 34) = false ∧ ((c.toNat : Int) == 92) = true) := by
          rcases hq with rfl | rfl
          · exact .inl ⟨rfl, rfl⟩
          · exact .inr ⟨rfl, rfl⟩
        clear he hq
        rcases hcs with ⟨h34, h92⟩ | ⟨h34, h92⟩
        all_goals
          go_wp2_with fail
          refine (byte_z B b acc 92 92 _ rfl D2.out (by omega) hsz2).mono ?_
          rintro e w2 ⟨rfl, d2, b2, k2⟩
          have D3 := Lib.hid d2
          have W3 := Lib.hid (W2.out.trans b2)
          have O3 := Lib.hid (O2.out.trans k2)
          have I3 := Lib.hid (k2.iter I2.out hne)
          have hz3 : B ≤ w2.heap.size := Nat.le_trans hsz2 b2.size
          clear d2 b2 k2
          go_wp2_with fail
          refine (byte_z B b (acc ++ [92]) c _ _ rfl D3.out (by simp; omega) hz3).mono ?_
          rintro e w3 ⟨rfl, d4, b4, k4⟩
          have D4 := Lib.hid d4
          have W4 := Lib.hid (W3.out.trans b4)
          have O4 := Lib.hid (O3.out.trans k4)
          have I4 := Lib.hid (k4.iter I3.out hne)
          clear d4 b4 k4
          go_wp2_with fail
          go_roundw
          case rel => exact ⟨pos + 1, _, by omega, D4.out, I4.out, W4.out, O4.out, HNE.out _ (by simp)⟩
          case measure =>
            have h1 : w3.iterPos w1.heap.size = pos + 1 := by simp only [World.iterPos, I4.out]
            rw [h1, hme.out]
            omega
      · have he : esc c = [c] := if_neg hq
        rw [he] at HNE
        have h34 : ((c.toNat : Int) == 34) = false := by
          rw [beq_eq_false_iff_ne]
          intro hc'
          exact hq (.inl (UInt8.toNat_inj.1 (by show c.toNat = 34; omega)))
        have h92 : ((c.toNat : Int) == 92) = false := by
          rw [beq_eq_false_iff_ne]
          intro hc'
          exact hq (.inr (UInt8.toNat_inj.1 (by show c.toNat = 92; omega)))
        clear he hq
        go_wp2_with fail
        refine (byte_z B b acc c _ _ rfl D2.out (by omega) hsz2).mono ?_
        rintro e w3 ⟨rfl, d4, b4, k4⟩
        have D4 := Lib.hid d4
        have W4 := Lib.hid (W2.out.trans b4)
        have O4 := Lib.hid (O2.out.trans k4)
        have I4 := Lib.hid (k4.iter I2.out hne)
        clear d4 b4 k4
        go_wp2_with fail
        go_roundw
        case rel => exact ⟨pos + 1, _, by omega, D4.out, I4.out, W4.out, O4.out, HNE.out _ rfl⟩
        case measure =>
          have h1 : w3.iterPos w1.heap.size = pos + 1 := by simp only [World.iterPos, I4.out]
          rw [h1, hme.out]
          omega
    · obtain rfl : s.size = pos := by omega
      have hnx : ∀ ty, (Instr.next (.pointer (some ⟨w1.heap.size, 0, none⟩)) true ty).run Tryz.prog wr = _ := fun ty => Lib.run_next_end_at wr w1.heap.size s s.size ty HIT.out hlt
      go_wp2_with fail
      refine (byte_z B b acc 34 34 _ rfl HBD.out (by omega) (by omega)).mono ?_
      rintro e w3 ⟨rfl, d4, b4, k4⟩
      have D4 := Lib.hid d4
      have W4 := Lib.hid (HBW.out.trans b4)
      have O4 := Lib.hid (HOK.out.trans k4)
      clear d4 b4 k4
      go_wp2_with fail
      go_end0
      refine ⟨rfl, ?_, W4.out, O4.out⟩
      have h1 : acc = l ++ [34] ++ (s.data.toList.take s.size).flatMap esc := HAC.out
      have h2 : s.data.toList.take s.size = s.data.toList := List.take_of_length_le (Nat.le_refl s.data.toList.length)
      have h3 := D4.out
      rw [h1, h2] at h3
      have h4 : l ++ quoted s.data.toList = l ++ [34] ++ s.data.toList.flatMap esc ++ [34] := by simp [quoted]
      rw [h4]
      exact h3

def cellT (n : Nat) : List UInt8 := [48, 120] ++ hx 16 n
theorem hx_le : ∀ f n, (hx f n).length ≤ f
  | 0, _ => by simp [hx]
  | f + 1, n => by
    rw [hx]
    split
    · simp
    · have := hx_le f (n / 16)
      simp
      omega
/-- What is a builder stays one where nothing below the end changes. -/
theorem bd_below {B b : Nat} {l : List UInt8} {w w' : World} (h : Bd B b l w) (hb : Below w.heap.size w w') : Bd B b l w' := by
  have key : ∀ p, Lib.BuilderAtF 80 5 B b p (Lib.byteCells l) w → Lib.BuilderAtF 80 5 B b p (Lib.byteCells l) w' := by
    rintro p ⟨h1, v, h2, h3, h4⟩
    refine ⟨h1, v, (hb.block b (lt_heap h2)).trans h2, ⟨h3.1, ?_⟩, h4⟩
    rcases h3.2 with h0 | ⟨g, cap, cur, fz, hv, hg, hh, hr⟩
    · exact .inl h0
    · exact .inr ⟨g, cap, cur, fz, hv, hg, (hb.block g (lt_heap hh)).trans hh, hr⟩
  rcases h with h | h
  · exact .inl (key _ h)
  · exact .inr (key _ h)
theorem others_below {e : TypeId} {b : Nat} {w w' : World} (hb : Below w.heap.size w w') : Lib.OthersKept e (some b) w w' := fun j _ hj _ _ => (hb.block j (lt_heap hj)).trans hj

set_option maxHeartbeats 1000000 in
theorem writeCell_any (B b : Nat) (l : List UInt8) (n : Nat) (w : World) (h : Bd B b l w) (hn : n < 4294967296) (hlen : l.length ≤ 1073741824) (hBw : B ≤ w.heap.size) (hVB : 7 < B) (hV : w.cell? ⟨7, 15, none⟩ = some (.int .u8 4)) :
    Calls Tryz.prog 26 #[.pointer (some ⟨b, 0, none⟩), .int .u32 (n : Int)] w fun e w' => e = .returned (.tuple #[]) ∧ Wrote B b (l ++ cellT n) w w' := by
  have HH := Lib.hid h
  have HV := Lib.hid hV
  clear h hV
  have hhl := hx_le 16 n
  go_enter Tryz.func26, Tryz.ntmps26
  go_wp2_with fail
  refine (string_any B b l ⟨#[48, 120]⟩ _ HH.out (by show l.length + 2 ≤ _; omega) hBw).mono ?_
  rintro e w1 ⟨rfl, d1, b1, k1⟩
  have D1 := Lib.hid d1
  have B1 := Lib.hid b1
  have K1 := Lib.hid k1
  have hz1 := b1.size
  clear d1 b1 k1
  go_wp2_with fail
  refine (formatUint_any n (by omega) _ (by rw [B1.out.cell (p := ⟨7, 15, none⟩) hVB]; exact HV.out)).mono ?_
  rintro e w2 ⟨rfl, b2⟩
  have D2 := Lib.hid (bd_below D1.out b2)
  have B2 := Lib.hid (B1.out.trans (b2.mono (by omega)))
  have K2 := Lib.hid (K1.out.trans (others_below b2))
  have hz2 : B ≤ w2.heap.size := by have := b2.size; omega
  clear b2
  go_wp2_with fail
  refine (string_any B b _ (digitsS n) _ D2.out (by
    have h1 : (digitsS n).size = (hx 16 n).length := rfl
    have h2 : (l ++ [(48 : UInt8), 120]).length = l.length + 2 := by simp
    show (l ++ [(48 : UInt8), 120]).length + _ ≤ _
    omega) hz2).mono ?_
  rintro e w3 ⟨rfl, d3, b3, k3⟩
  have D3 := Lib.hid d3
  have B3 := Lib.hid (B2.out.trans b3)
  have K3 := Lib.hid (K2.out.trans k3)
  clear d3 b3 k3
  go_wp2_with fail
  go_end0
  refine ⟨rfl, ?_, B3.out, K3.out⟩
  have h4 : l ++ cellT n = l ++ (⟨#[48, 120]⟩ : ByteArray).data.toList ++ (digitsS n).data.toList := by simp [cellT, digitsS]
  rw [h4]
  exact D3.out

/-- Things one behind the other, with something between each two. -/
def jn (sep : List UInt8) (f : Nat → List UInt8) : Nat → List UInt8
  | 0 => []
  | k + 1 => jn sep f k ++ (if k = 0 then [] else sep) ++ f k
theorem jn_len (sep : List UInt8) (f : Nat → List UInt8) (m : Nat) (hf : ∀ i, (f i).length ≤ m) : ∀ k, (jn sep f k).length ≤ k * (sep.length + m)
  | 0 => by simp [jn]
  | k + 1 => by
    have h1 := jn_len sep f m hf k
    have h2 := hf k
    simp only [jn, List.length_append]
    rw [Nat.add_mul, Nat.one_mul]
    split
    · simp only [List.length_nil]; omega
    · omega
theorem quoted_len (t : List UInt8) (h : t.length ≤ 128) : (quoted t).length ≤ 258 := by
  have := escs_len t
  simp only [quoted, List.length_cons, List.length_append, List.length_nil]
  omega
theorem cellT_len (n : Nat) : (cellT n).length ≤ 18 := by
  have := hx_le 16 n
  simp only [cellT, List.length_append, List.length_cons, List.length_nil]
  omega

theorem jn_small (xs : List ByteArray) (n : Nat) (hnx : n ≤ 1048576) (hsx : ∀ k, (xs.getD k ByteArray.empty).size ≤ 128) : ∀ k, k ≤ n → (jn [44, 32] (fun i => quoted (xs.getD i ByteArray.empty).data.toList) k).length ≤ 536870912 := fun k hk => by
    have h := jn_len [44, 32] (fun i => quoted (xs.getD i ByteArray.empty).data.toList) 258 (fun i => quoted_len _ (hsx i)) k
    have h2 : ([44, 32] : List UInt8).length = 2 := rfl
    rw [h2] at h
    refine Nat.le_trans h (Nat.le_trans (Nat.mul_le_mul_right _ (Nat.le_trans hk hnx)) (by decide))
set_option maxHeartbeats 2000000 in
theorem listedTexts_any (A : Option Addr) (c n : Nat) (xs : List ByteArray) (w : World) (hn : n = xs.length) (hnx : n ≤ 67108864) (hasc : ∀ k i (hi : i < (xs.getD k ByteArray.empty).size), (xs.getD k ByteArray.empty)[i].toNat < 128) (hsx : ∀ k, (xs.getD k ByteArray.empty).size ≤ 67108864)
    (hj : ∀ k, k ≤ n → (jn [44, 32] (fun i => quoted (xs.getD i ByteArray.empty).data.toList) k).length ≤ 536870912) (hA : Src w A n c (strs xs)) :
    Calls Tryz.prog 23 #[.slice A n c, .string ⟨#[44, 32]⟩, .func (.func 24) #[] #[]] w fun e w' => e = .returned (.string (str (jn [44, 32] (fun i => quoted (xs.getD i ByteArray.empty).data.toList) n))) ∧ Below w.heap.size w w' := by
  have HN := Lib.hid hn
  have GA := Lib.hid hA
  have HASC := Lib.hid hasc
  have HSX := Lib.hid hsx
  have HJ := Lib.hid hj
  clear hasc hj
  clear hn hA
  go_enter Tryz.func23, Tryz.ntmps23
  go_wp2_with fail
  go_loopw [12] (fun i wr => ∃ k : Nat, k ≤ n ∧ i = .int .i64 k ∧ Bd w.heap.size w.heap.size (jn [44, 32] (fun i => quoted (xs.getD i ByteArray.empty).data.toList) k) wr ∧ Below w.heap.size w wr) (fun i _ => n - (intOf i).toNat)
  case atStart => exact ⟨0, by omega, rfl, Bd.fresh w, (Below.refl _ _).alloc (Nat.le_refl _) _⟩
  case round =>
    obtain ⟨k, hk, rfl, hbd, hbw⟩ := hrel
    have HBD := Lib.hid hbd
    have HBW := Lib.hid hbw
    have hsz := hbw.size
    clear hbd hbw
    have hjl := HJ.out k hk
    by_cases hlt : k < n
    · obtain ⟨b, o, rfl, hbl, hc1⟩ := src_get (GA.out.below HBW.out) (by omega)
      have hkx : k < xs.length := by rw [← HN.out]; exact hlt
      have e1 := hc1 k _ (strs_at xs k hkx)
      have HS : Hid (jn [44, 32] (fun i => quoted (xs.getD i ByteArray.empty).data.toList) (k + 1) = jn [44, 32] (fun i => quoted (xs.getD i ByteArray.empty).data.toList) k ++ (if k = 0 then [] else [44, 32]) ++ quoted (xs.getD k ByteArray.empty).data.toList) := Lib.hid rfl
      have ha := HASC.out k
      have hsz1 := HSX.out k
      generalize xs.getD k ByteArray.empty = s at e1 ha hsz1 HS
      have HA2 := Lib.hid ha
      clear ha
      clear hc1 hkx
      by_cases hk0 : k = 0
      · subst hk0
        rw [Nat.add_zero] at e1
        go_wp2_with fail
        refine (writeText_any w.heap.size w.heap.size _ s _ HBD.out HA2.out (by omega) (by omega) hsz).mono ?_
        rintro e w2 ⟨rfl, d2, b2, k2⟩
        have D2 := Lib.hid d2
        have W2 := Lib.hid (HBW.out.trans b2)
        clear d2 b2 k2
        go_wp2_with fail
        go_roundw
        case rel =>
          refine ⟨0 + 1, by omega, by go_num, ?_, W2.out⟩
          rw [HS.out]
          simp only [if_true, List.append_nil]
          exact D2.out
        case measure => simp [intOf]; omega
      · have hkp : 0 < k := by omega
        go_wp2_with fail
        refine (string_any w.heap.size w.heap.size _ ⟨#[44, 32]⟩ _ HBD.out (by show _ + 2 ≤ _; omega) hsz).mono ?_
        rintro e w2 ⟨rfl, d2, b2, k2⟩
        have D2 := Lib.hid d2
        have W2 := Lib.hid (HBW.out.trans b2)
        have hz2 : w.heap.size ≤ w2.heap.size := W2.out.size
        skip
        clear d2 b2 k2
        go_wp2_with fail
        refine (writeText_any w.heap.size w.heap.size _ s _ D2.out HA2.out (by omega) (by simp only [List.length_append]; show _ + 2 ≤ _; omega) hz2).mono ?_
        rintro e w3 ⟨rfl, d3, b3, k3⟩
        have D3 := Lib.hid d3
        have W3 := Lib.hid (W2.out.trans b3)
        clear d3 b3 k3
        go_wp2_with fail
        go_roundw
        case rel =>
          refine ⟨k + 1, by omega, by go_num, ?_, W3.out⟩
          rw [HS.out, if_neg hk0]
          exact D3.out
        case measure => simp [intOf]; omega
    · obtain rfl : n = k := by omega
      go_wp2_with fail
      refine (Tryz.Builder_String_any_k w.heap.size w.heap.size _ _ HBD.out hsz).mono ?_
      rintro e w3 ⟨rfl, _, b3, _⟩
      have W3 := Lib.hid (HBW.out.trans b3)
      clear b3
      go_wp2_with fail
      go_ret
      exact ⟨rfl, W3.out⟩

set_option maxHeartbeats 2000000 in
theorem listedCells_any (A : Option Addr) (c n : Nat) (xs : List Nat) (w : World) (hn : n = xs.length) (hnx : n ≤ 16777216) (hlim : ∀ k, xs.getD k 0 < 4294967296) (hV : w.cell? ⟨7, 15, none⟩ = some (.int .u8 4)) (hA : Src w A n c (nats .u32 xs)) :
    Calls Tryz.prog 25 #[.slice A n c, .string ⟨#[32]⟩, .func (.func 26) #[] #[]] w fun e w' => e = .returned (.string (str (jn [32] (fun i => cellT (xs.getD i 0)) n))) ∧ Below w.heap.size w w' := by
  have HN := Lib.hid hn
  have GA := Lib.hid hA
  have HLIM := Lib.hid hlim
  have hVlt : 7 < w.heap.size := World.block_lt_of_cell? w _ hV
  have HVV := Lib.hid hV
  clear hlim hV
  clear hn hA
  have HJ : Hid (∀ k, k ≤ n → (jn [32] (fun i => cellT (xs.getD i 0)) k).length ≤ 536870912) := Lib.hid fun k hk => by
    have h := jn_len [32] (fun i => cellT (xs.getD i 0)) 18 (fun i => cellT_len _) k
    have h2 : ([32] : List UInt8).length = 1 := rfl
    rw [h2] at h
    refine Nat.le_trans h (Nat.le_trans (Nat.mul_le_mul_right _ (Nat.le_trans hk hnx)) (by decide))
  go_enter Tryz.func25, Tryz.ntmps25
  go_wp2_with fail
  go_loopw [12] (fun i wr => ∃ k : Nat, k ≤ n ∧ i = .int .i64 k ∧ Bd w.heap.size w.heap.size (jn [32] (fun i => cellT (xs.getD i 0)) k) wr ∧ Below w.heap.size w wr) (fun i _ => n - (intOf i).toNat)
  case atStart => exact ⟨0, by omega, rfl, Bd.fresh w, (Below.refl _ _).alloc (Nat.le_refl _) _⟩
  case round =>
    obtain ⟨k, hk, rfl, hbd, hbw⟩ := hrel
    have HBD := Lib.hid hbd
    have HBW := Lib.hid hbw
    have hsz := hbw.size
    clear hbd hbw
    have hjl := HJ.out k hk
    by_cases hlt : k < n
    · obtain ⟨b, o, rfl, hbl, hc1⟩ := src_get (GA.out.below HBW.out) (by omega)
      have hkx : k < xs.length := by rw [← HN.out]; exact hlt
      have e1 := hc1 k _ (nats_at .u32 xs k hkx)
      have HS : Hid (jn [32] (fun i => cellT (xs.getD i 0)) (k + 1) = jn [32] (fun i => cellT (xs.getD i 0)) k ++ (if k = 0 then [] else [32]) ++ cellT (xs.getD k 0)) := Lib.hid rfl
      have ha := HLIM.out k
      generalize xs.getD k 0 = x at e1 ha HS
      have hvr : wr.cell? ⟨7, 15, none⟩ = some (.int .u8 4) := by rw [HBW.out.cell (p := ⟨7, 15, none⟩) hVlt]; exact HVV.out
      have HVR := Lib.hid hvr
      clear hvr
      clear hc1 hkx
      by_cases hk0 : k = 0
      · subst hk0
        rw [Nat.add_zero] at e1
        go_wp2_with fail
        refine (writeCell_any w.heap.size w.heap.size _ x _ HBD.out ha (by omega) hsz hVlt HVR.out).mono ?_
        rintro e w2 ⟨rfl, d2, b2, k2⟩
        have D2 := Lib.hid d2
        have W2 := Lib.hid (HBW.out.trans b2)
        clear d2 b2 k2
        go_wp2_with fail
        go_roundw
        case rel =>
          refine ⟨0 + 1, by omega, by go_num, ?_, W2.out⟩
          rw [HS.out]
          simp only [if_true, List.append_nil]
          exact D2.out
        case measure => simp [intOf]; omega
      · have hkp : 0 < k := by omega
        go_wp2_with fail
        refine (string_any w.heap.size w.heap.size _ ⟨#[32]⟩ _ HBD.out (by show _ + 1 ≤ _; omega) hsz).mono ?_
        rintro e w2 ⟨rfl, d2, b2, k2⟩
        have D2 := Lib.hid d2
        have W2 := Lib.hid (HBW.out.trans b2)
        have hz2 : w.heap.size ≤ w2.heap.size := W2.out.size
        have hv2 : w2.cell? ⟨7, 15, none⟩ = some (.int .u8 4) := by rw [W2.out.cell (p := ⟨7, 15, none⟩) hVlt]; exact HVV.out
        have HV2 := Lib.hid hv2
        clear hv2
        clear d2 b2 k2
        go_wp2_with fail
        refine (writeCell_any w.heap.size w.heap.size _ x _ D2.out ha (by simp only [List.length_append]; show _ + 1 ≤ _; omega) hz2 hVlt HV2.out).mono ?_
        rintro e w3 ⟨rfl, d3, b3, k3⟩
        have D3 := Lib.hid d3
        have W3 := Lib.hid (W2.out.trans b3)
        clear d3 b3 k3
        go_wp2_with fail
        go_roundw
        case rel =>
          refine ⟨k + 1, by omega, by go_num, ?_, W3.out⟩
          rw [HS.out, if_neg hk0]
          exact D3.out
        case measure => simp [intOf]; omega
    · obtain rfl : n = k := by omega
      go_wp2_with fail
      refine (Tryz.Builder_String_any_k w.heap.size w.heap.size _ _ HBD.out hsz).mono ?_
      rintro e w3 ⟨rfl, _, b3, _⟩
      have W3 := Lib.hid (HBW.out.trans b3)
      clear b3
      go_wp2_with fail
      go_ret
      exact ⟨rfl, W3.out⟩
end Go.Proofs.YtomhfmcmjcghoaaGreatDoor.Cl
