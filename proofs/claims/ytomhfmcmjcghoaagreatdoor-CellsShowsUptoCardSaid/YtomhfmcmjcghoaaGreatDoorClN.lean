/- The contracts of the makers of values: appendCell, the document's bytes. -/
import Derived.Test.YtomhfmcmjcghoaaGreatDoorClK
import Derived.Lib.Builder
import Derived.Lib.AppendStr
namespace Go.Proofs.YtomhfmcmjcghoaaGreatDoor.Cl
open Go.ChangeShapes Go.WideShapes Go.ChangeAt Go.RowKit Own

theorem info_u8 : (Tryz.prog.info? 5).map (fun i => (i.zero, i.size, i.bytes)) = some (some (.int .u8 0), 1, 1) := by kernel_rfl
/-- So many bytes of a number, the highest first. -/
def be : Nat → Nat → List UInt8
  | _, 0 => []
  | n, k + 1 => be (n / 256) k ++ [UInt8.ofNat n]
theorem be_len : ∀ (n k : Nat), (be n k).length = k
  | _, 0 => rfl
  | n, k + 1 => by rw [be, List.length_append, be_len]; rfl
theorem be4 (n : Nat) : be n 4 = [UInt8.ofNat (n / 256 / 256 / 256), UInt8.ofNat (n / 256 / 256), UInt8.ofNat (n / 256), UInt8.ofNat n] := by simp [be]
theorem be8 (n : Nat) : be n 8 = [UInt8.ofNat (n / 256 / 256 / 256 / 256 / 256 / 256 / 256), UInt8.ofNat (n / 256 / 256 / 256 / 256 / 256 / 256), UInt8.ofNat (n / 256 / 256 / 256 / 256 / 256), UInt8.ofNat (n / 256 / 256 / 256 / 256), UInt8.ofNat (n / 256 / 256 / 256), UInt8.ofNat (n / 256 / 256), UInt8.ofNat (n / 256), UInt8.ofNat n] := by simp [be]
theorem ofNat_mod (n : Nat) : UInt8.ofNat n = UInt8.ofNat (n % 256) := by
  apply UInt8.toNat_inj.1
  simp
theorem be_pair (n : Nat) : be (n / 4294967296) 4 ++ be (n % 4294967296) 4 = be n 8 := by
  rw [be4, be4, be8]
  simp only [List.cons_append, List.nil_append]
  have e : ∀ a b : Nat, a % 256 = b % 256 → UInt8.ofNat a = UInt8.ofNat b := fun a b h => by rw [ofNat_mod a, ofNat_mod b, h]
  rw [e (n / 4294967296 / 256 / 256 / 256) (n / 256 / 256 / 256 / 256 / 256 / 256 / 256) (by omega), e (n / 4294967296 / 256 / 256) (n / 256 / 256 / 256 / 256 / 256 / 256) (by omega), e (n / 4294967296 / 256) (n / 256 / 256 / 256 / 256 / 256) (by omega), e (n / 4294967296) (n / 256 / 256 / 256 / 256) (by omega),
    e (n % 4294967296 / 256 / 256 / 256) (n / 256 / 256 / 256) (by omega), e (n % 4294967296 / 256 / 256) (n / 256 / 256) (by omega), e (n % 4294967296 / 256) (n / 256) (by omega), e (n % 4294967296) n (by omega)]
theorem conv_own {w : World} {base : Nat} {v : Value} {n : Nat} {bs : List UInt8} (h : w.ownsRow base 5 1 v n (Lib.byteCells bs)) :
    (convert 54 9 v).run Tryz.prog w = .ok (.string (str bs)) w := by
  have hl : bs.length = n := by have := h.1; rw [Lib.byteCells_length] at this; omega
  obtain ⟨A, c, rfl, hs⟩ := own_src h
  rcases hs with ⟨rfl, rfl, rfl, hb⟩ | ⟨ad, rfl, hlen, hc⟩
  · have : bs = [] := List.eq_nil_of_length_eq_zero hl
    subst this
    exact run_convert_bytes_nil w 54 5 Tryz.underlying54 Tryz.underlying5 0 0 9 Tryz.underlying9
  · subst hl
    refine run_convert_bytes_back w 54 9 5 ad c bs Tryz.underlying54 Tryz.underlying5 Tryz.underlying9 (fun j hj => hc j _ ?_)
    simp [Lib.byteCells, List.getElem?_eq_getElem hj]
theorem cells4 (n : Nat) (hn : n < 4294967296) : Lib.byteCells (be n 4) = [.int .u8 ((n : Int) / 256 / 256 / 256), .int .u8 ((n : Int) / 256 / 256 % 256), .int .u8 ((n : Int) / 256 % 256), .int .u8 ((n : Int) % 256)] := by
  rw [be4]
  simp [Lib.byteCells]
  omega
theorem cells8 (n : Nat) (hn : n < 18446744073709551616) : Lib.byteCells (be n 8) = [.int .u8 ((n : Int) / 256 / 256 / 256 / 256 / 256 / 256 / 256), .int .u8 ((n : Int) / 256 / 256 / 256 / 256 / 256 / 256 % 256), .int .u8 ((n : Int) / 256 / 256 / 256 / 256 / 256 % 256), .int .u8 ((n : Int) / 256 / 256 / 256 / 256 % 256), .int .u8 ((n : Int) / 256 / 256 / 256 % 256), .int .u8 ((n : Int) / 256 / 256 % 256), .int .u8 ((n : Int) / 256 % 256), .int .u8 ((n : Int) % 256)] := by
  rw [be8]
  simp [Lib.byteCells]
  omega
theorem own_row (w : World) (E : TypeId) (xs : List Value) (n : Nat) (hn : xs.length = n) (hm : n ≤ maxLen) : (w.alloc (.cells xs.toArray E)).ownsRow 0 E 1 (.slice (some ⟨w.heap.size, 0, none⟩) n n) n xs :=
  ⟨by omega, .inr ⟨w.heap.size, n, xs.toArray, rfl, Nat.zero_le _, heap_alloc_new w _, Nat.le_refl _, hm, by simp; omega, by simp; exact List.take_of_length_le (by omega)⟩⟩
theorem src4 (w : World) (a b c d : Value) (t : TypeId) : Src (w.alloc (.cells #[a, b, c, d] t)) (some ⟨w.heap.size, 0, none⟩) 4 4 [a, b, c, d] :=
  .inr ⟨_, rfl, rfl, fun j u hu => by
    match j, hu with
    | 0, hu => simp at hu; subst hu; simp [Addr.add]
    | 1, hu => simp at hu; subst hu; simp [Addr.add]
    | 2, hu => simp at hu; subst hu; simp [Addr.add]
    | 3, hu => simp at hu; subst hu; simp [Addr.add]⟩

set_option maxHeartbeats 1000000 in
theorem appendCell_any (base : Nat) (v : Value) (m n : Nat) (bs : List UInt8) (w : World) (hn : n < 4294967296) (hm : m ≤ 1073741824) (hb : base ≤ w.heap.size) (ho : w.ownsRow base 5 1 v m (Lib.byteCells bs)) :
    Calls Tryz.prog 37 #[v, .int .u32 (n : Int)] w fun e w' => ∃ v', e = .returned v' ∧ w'.ownsRow base 5 1 v' (m + 4) (Lib.byteCells (bs ++ be n 4)) ∧ w.grownBy w' v.ownBlock := by
  have HO := Lib.hid ho
  clear ho
  go_enter Tryz.func37, Tryz.ntmps37
  go_wp2_with fail
  refine wp_loop_rounds 5 ?_
  iterate 4 (rw [rounds_succ]; go_wp2_with fail)
  rw [rounds_succ]
  go_wp2_with (at_builtin; go_must (refine wpList_append_src rfl (.tmp 17) (.tmp 18) 54 rfl base 5 (.int .u8 0) 1 Tryz.underlying54 info_u8 rfl _ m (Lib.byteCells bs) rfl (HO.out.alloc _) _ 4 4 _ rfl (src4 _ _ _ _ _ _) (by intro u hu; simp at hu; rcases hu with rfl | rfl | rfl | rfl <;> rfl) (by omega) (by omega) (by simp; omega) ?_); intro v1 w1 hown1 hg1)
  rw [← cells4 n hn, ← Lib.byteCells_append] at hown1
  have HO1 := Lib.hid hown1
  have HG1 := Lib.hid hg1
  clear hown1 hg1
  go_wp2_with fail
  go_ret
  exact ⟨v1, rfl, HO1.out, (World.grownBy_alloc w _ _).trans HG1.out⟩

def bytesAt (n k : Nat) : Value := .string (str (be n k))
theorem made4 (W : World) : (Instr.makeSlice 54 (.int .i64 4) (.int .i64 4)).run Tryz.prog W = .ok (.slice (some ⟨W.heap.size, 0, none⟩) 4 4) (W.alloc (.cells #[.int .u8 0, .int .u8 0, .int .u8 0, .int .u8 0] 5)) := by kernel_rfl
theorem made8 (W : World) : (Instr.makeSlice 54 (.int .i64 8) (.int .i64 8)).run Tryz.prog W = .ok (.slice (some ⟨W.heap.size, 0, none⟩) 8 8) (W.alloc (.cells #[.int .u8 0, .int .u8 0, .int .u8 0, .int .u8 0, .int .u8 0, .int .u8 0, .int .u8 0, .int .u8 0] 5)) := by kernel_rfl

set_option maxHeartbeats 2000000 in
theorem bytes4_any (n : Nat) (w : World) (hn : n < 4294967296) :
    Calls Tryz.prog 44 #[.int .u64 (n : Int), .int .i64 4] w fun e w' => e = .returned (.string (str (be n 4))) ∧ Below w.heap.size w w' := by
  have hmk := made4
  have hcv : (convert 54 9 (.slice (some ⟨w.heap.size, 0, none⟩) 4 4)).run Tryz.prog (w.alloc (.cells #[.int .u8 ((n : Int) / 256 / 256 / 256), .int .u8 ((n : Int) / 256 / 256 % 256), .int .u8 ((n : Int) / 256 % 256), .int .u8 ((n : Int) % 256)] 5)) = .ok (.string (str (be n 4))) (w.alloc (.cells #[.int .u8 ((n : Int) / 256 / 256 / 256), .int .u8 ((n : Int) / 256 / 256 % 256), .int .u8 ((n : Int) / 256 % 256), .int .u8 ((n : Int) % 256)] 5)) :=
    conv_own (base := 0) (n := 4) (by
      have h : (#[.int .u8 ((n : Int) / 256 / 256 / 256), .int .u8 ((n : Int) / 256 / 256 % 256), .int .u8 ((n : Int) / 256 % 256), .int .u8 ((n : Int) % 256)] : Array Value) = (Lib.byteCells (be n 4)).toArray := by rw [cells4 n hn]
      rw [h]
      exact own_row w _ _ 4 (by rw [Lib.byteCells_length, be_len]) (by decide))
  go_enter Tryz.func44, Tryz.ntmps44
  go_wp2_with fail
  refine wp_loop_rounds 5 ?_
  iterate 4 (rw [rounds_succ]; go_wp2_with fail)
  rw [rounds_succ]
  go_wp2_with fail
  go_ret
  exact ⟨rfl, by go_grown⟩

set_option maxHeartbeats 4000000 in
theorem bytes8_any (n : Nat) (w : World) (hn : n < 18446744073709551616) :
    Calls Tryz.prog 44 #[.int .u64 (n : Int), .int .i64 8] w fun e w' => e = .returned (.string (str (be n 8))) ∧ Below w.heap.size w w' := by
  have hmk := made8
  have hcv : (convert 54 9 (.slice (some ⟨w.heap.size, 0, none⟩) 8 8)).run Tryz.prog (w.alloc (.cells #[.int .u8 ((n : Int) / 256 / 256 / 256 / 256 / 256 / 256 / 256), .int .u8 ((n : Int) / 256 / 256 / 256 / 256 / 256 / 256 % 256), .int .u8 ((n : Int) / 256 / 256 / 256 / 256 / 256 % 256), .int .u8 ((n : Int) / 256 / 256 / 256 / 256 % 256), .int .u8 ((n : Int) / 256 / 256 / 256 % 256), .int .u8 ((n : Int) / 256 / 256 % 256), .int .u8 ((n : Int) / 256 % 256), .int .u8 ((n : Int) % 256)] 5)) = .ok (.string (str (be n 8))) (w.alloc (.cells #[.int .u8 ((n : Int) / 256 / 256 / 256 / 256 / 256 / 256 / 256), .int .u8 ((n : Int) / 256 / 256 / 256 / 256 / 256 / 256 % 256), .int .u8 ((n : Int) / 256 / 256 / 256 / 256 / 256 % 256), .int .u8 ((n : Int) / 256 / 256 / 256 / 256 % 256), .int .u8 ((n : Int) / 256 / 256 / 256 % 256), .int .u8 ((n : Int) / 256 / 256 % 256), .int .u8 ((n : Int) / 256 % 256), .int .u8 ((n : Int) % 256)] 5)) :=
    conv_own (base := 0) (n := 8) (by
      have h : (#[.int .u8 ((n : Int) / 256 / 256 / 256 / 256 / 256 / 256 / 256), .int .u8 ((n : Int) / 256 / 256 / 256 / 256 / 256 / 256 % 256), .int .u8 ((n : Int) / 256 / 256 / 256 / 256 / 256 % 256), .int .u8 ((n : Int) / 256 / 256 / 256 / 256 % 256), .int .u8 ((n : Int) / 256 / 256 / 256 % 256), .int .u8 ((n : Int) / 256 / 256 % 256), .int .u8 ((n : Int) / 256 % 256), .int .u8 ((n : Int) % 256)] : Array Value) = (Lib.byteCells (be n 8)).toArray := by rw [cells8 n hn]
      rw [h]
      exact own_row w _ _ 8 (by rw [Lib.byteCells_length, be_len]) (by decide))
  go_enter Tryz.func44, Tryz.ntmps44
  go_wp2_with fail
  refine wp_loop_rounds 9 ?_
  iterate 8 (rw [rounds_succ]; go_wp2_with fail)
  rw [rounds_succ]
  go_wp2_with fail
  go_ret
  exact ⟨rfl, by go_grown⟩
end Go.Proofs.YtomhfmcmjcghoaaGreatDoor.Cl
