/- The contracts of isPlain, Quote, inLine, firstByte, unescaped, wordEnd, read. -/
import Derived.Test.YtaoekpedjgnnjaaDoorWdC
import Derived.Test.YtaoekpedjgnnjaaDoorPv
namespace Go.Proofs.YtaoekpedjgnnjaaDoor.Wd
open Go.ChangeShapes Go.WideShapes Go.ChangeAt Go.RowKit Own Bld Go.Lib Nums

/-- What stands in the library's variables that words reads. -/
structure En (w : World) : Prop where
  mx : ∃ m, w.cell? ⟨0, 0, none⟩ = some (.int .i64 m)
  u8 : U8 w
  er : Errs w
theorem En.below {w w' : World} (h : En w) (hb : Below w.heap.size w w') : En w' := by
  obtain ⟨m, h1⟩ := h.mx
  refine ⟨⟨m, ?_⟩, h.u8.below hb, h.er.below hb⟩
  rw [hb.cell (World.block_lt_of_cell? _ _ h1)]; exact h1

def plainC (c : UInt8) : Bool := decide (33 ≤ c.toNat) && decide (c.toNat ≤ 126) && decide (c.toNat ≠ 34) && decide (c.toNat ≠ 92)
def plainW (l : List UInt8) : Bool := !l.isEmpty && l.all plainC
theorem plain_no {s : ByteArray} {k : Nat} (h : k < s.size) (hc : plainC s[k] = false) : plainW s.data.toList = false := by
  have hm : s[k] ∈ s.data.toList := Array.mem_toList_iff.2 (Array.getElem_mem (xs := s.data) h)
  have : s.data.toList.all plainC = false := by
    rw [List.all_eq_false]
    exact ⟨_, hm, by rw [hc]; exact Bool.false_ne_true⟩
  unfold plainW
  rw [this, Bool.and_false]
theorem plain_step {s : ByteArray} {k : Nat} (h : k < s.size) (ha : (s.data.toList.take k).all plainC = true) (hc : plainC s[k] = true) : (s.data.toList.take (k + 1)).all plainC = true := by
  rw [take_last s k h, List.all_append, ha]
  simpa using hc

set_option maxRecDepth 100000 in
set_option maxHeartbeats 2000000 in
theorem isPlain_any (s : ByteArray) (w : World) (hs : s.size ≤ 268435456) :
    Calls Tryd.prog 34 #[.string s] w fun e w' => e = .returned (.bool (plainW s.data.toList)) ∧ w = w' := by
  have hz : s.data.toList.length = s.size := rfl
  have HZ := Lib.hid hz
  clear hz
  go_enter Tryd.func34, Tryd.ntmps34
  go_wp2_with fail
  go_loop [7] (fun i => ∃ k : Nat, k ≤ s.size ∧ i = .int .i64 k ∧ Hid ((s.data.toList.take k).all plainC = true)) (fun i => s.size - (RowKit.intOf i).toNat)
  case atStart => exact ⟨0, by omega, rfl, Lib.hid rfl⟩
  case round =>
    obtain ⟨k, hk, rfl, HA⟩ := hrel
    by_cases hlt : k < s.size
    · have hc256 : s[k].toNat < 256 := s[k].toNat_lt
      by_cases hp : plainC s[k] = true
      · have HN := Lib.hid (plain_step hlt HA.out hp)
        unfold plainC at hp
        simp only [Bool.and_eq_true, decide_eq_true_eq] at hp
        obtain ⟨⟨⟨p1, p2⟩, p3⟩, p4⟩ := hp
        have t1 : decide ((s[k].toNat : Int) < 33) = false := decide_eq_false (by omega)
        have t2 : decide ((126 : Int) < (s[k].toNat : Int)) = false := decide_eq_false (by omega)
        have t3 : ((s[k].toNat : Int) == 34) = false := beq_eq_false_iff_ne.2 (by omega)
        have t4 : ((s[k].toNat : Int) == 92) = false := beq_eq_false_iff_ne.2 (by omega)
        clear p1 p2 p3 p4 HA
        go_wp2_with fail
        go_round
        case rel => exact ⟨k + 1, by omega, by go_num, HN⟩
        case measure => simp [RowKit.intOf]; omega
      · have hp' : plainC s[k] = false := by simpa using hp
        have HV := Lib.hid (plain_no hlt hp')
        unfold plainC at hp'
        clear hp HA
        by_cases q1 : s[k].toNat < 33
        · have t1 : decide ((s[k].toNat : Int) < 33) = true := decide_eq_true (by omega)
          clear q1 hp'
          go_wp2_with fail
          go_ret
          rw [HV.out]
          exact ⟨rfl, rfl⟩
        · have t1 : decide ((s[k].toNat : Int) < 33) = false := decide_eq_false (by omega)
          by_cases q2 : 126 < s[k].toNat
          · have t2 : decide ((126 : Int) < (s[k].toNat : Int)) = true := decide_eq_true (by omega)
            clear q1 q2 hp'
            go_wp2_with fail
            go_ret
            rw [HV.out]
            exact ⟨rfl, rfl⟩
          · have t2 : decide ((126 : Int) < (s[k].toNat : Int)) = false := decide_eq_false (by omega)
            by_cases q3 : s[k].toNat = 34
            · have t3 : ((s[k].toNat : Int) == 34) = true := beq_iff_eq.2 (by omega)
              clear q1 q2 q3 hp'
              go_wp2_with fail
              go_ret
              rw [HV.out]
              exact ⟨rfl, rfl⟩
            · have t3 : ((s[k].toNat : Int) == 34) = false := beq_eq_false_iff_ne.2 (by omega)
              have q4 : s[k].toNat = 92 := Classical.byContradiction fun h4 => by
                rw [decide_eq_true (by omega), decide_eq_true (by omega), decide_eq_true q3, decide_eq_true h4] at hp'
                cases hp'
              have t4 : ((s[k].toNat : Int) == 92) = true := beq_iff_eq.2 (by omega)
              clear q1 q2 q3 q4 hp'
              go_wp2_with fail
              go_ret
              rw [HV.out]
              exact ⟨rfl, rfl⟩
    · obtain rfl : k = s.size := by omega
      by_cases h0 : s.size = 0
      · have hl : s.data.toList = [] := List.eq_nil_of_length_eq_zero (by rw [HZ.out]; exact h0)
        have HV : Hid (plainW s.data.toList = false) := Lib.hid (by rw [hl]; rfl)
        have hne : (s.toList != []) = false := by rw [Lib.toList_data, hl]; rfl
        have hne2 : s.toList.isEmpty = true := by rw [Lib.toList_data, hl]; rfl
        clear hl h0 HA
        go_wp2_with fail
        go_ret
        rw [HV.out]
        exact ⟨rfl, rfl⟩
      · have hl : s.data.toList ≠ [] := fun h => h0 (by rw [← HZ.out, h]; rfl)
        have HV : Hid (plainW s.data.toList = true) := Lib.hid (by
          have h := HA.out
          rw [List.take_of_length_le (by rw [HZ.out]; omega)] at h
          unfold plainW
          rw [h, List.isEmpty_eq_false_iff.2 hl]
          rfl)
        have hne : (s.toList != []) = true := by rw [Lib.toList_data, bne_iff_ne]; exact hl
        have hne2 : s.toList.isEmpty = false := by rw [Lib.toList_data, List.isEmpty_eq_false_iff]; exact hl
        clear hl h0 HA
        go_wp2_with fail
        go_ret
        rw [HV.out]
        exact ⟨rfl, rfl⟩

def quoteW (l : List UInt8) : List UInt8 := 34 :: (Lib.replaceAll (showW l) [34] [92, 34] ++ [34])
def inW (l : List UInt8) : List UInt8 := if plainW l then l else quoteW l
theorem count_le (s : ByteArray) : Lib.countB s ⟨#[34]⟩ ≤ s.size := Lib.countB_le ⟨#[34]⟩ (by decide) s.size s (Nat.le_refl _)
theorem wrap_q (J : List UInt8) : (⟨#[34]⟩ : ByteArray) ++ str J ++ ⟨#[34]⟩ = str (34 :: (J ++ [34])) := bytes_ext (by simp [str])
theorem ret_str {a b : ByteArray} (h : a = b) : Ending.returned (.string a) = .returned (.string b) := by rw [h]

set_option maxRecDepth 100000 in
theorem quote_any (s : ByteArray) (w : World) (hs : s.size ≤ 16777216) (hr : (Lib.replaceAll (showW s.data.toList) [34] [92, 34]).length ≤ 268435456) (he : En w) :
    Calls Tryd.prog 11 #[.string s] w fun e w' => e = .returned (.string (str (quoteW s.data.toList))) ∧ Below w.heap.size w w' := by
  have HE := Lib.hid he
  have hsl : (str (showW s.data.toList)).size ≤ 67108864 := by
    have h := showW_len _ s.data.toList (Nat.le_refl _)
    have h2 : s.data.toList.length = s.size := rfl
    rw [str_size]
    omega
  have hcl := count_le (str (showW s.data.toList))
  clear he
  go_enter Tryd.func11, Tryd.ntmps11
  go_wp2_with fail
  refine (show_any s _ (by omega) HE.out.u8).mono ?_
  rintro e w1 ⟨rfl, b1⟩
  have B1 := Lib.hid b1
  obtain ⟨m, hm⟩ := (HE.out.below b1).mx
  have HM := Lib.hid hm
  clear b1 hm
  go_wp2_with fail
  refine (Tryd.strings_ReplaceAll (str (showW s.data.toList)) ⟨#[34]⟩ ⟨#[92, 34]⟩ m _ (by omega) HM.out (by decide) (by show _ + _ * 2 ≤ _; omega)).mono ?_
  rw [str_list, show (⟨#[34]⟩ : ByteArray).data.toList = [34] from rfl, show (⟨#[92, 34]⟩ : ByteArray).data.toList = [92, 34] from rfl]
  rintro e w2 ⟨rfl, b2⟩
  have B2 := Lib.hid (B1.out.trans (b2.mono B1.out.size))
  have HW := Lib.hid (wrap_q (Lib.replaceAll (showW s.data.toList) [34] [92, 34]))
  have HRS : Hid ((str (Lib.replaceAll (showW s.data.toList) [34] [92, 34])).size ≤ 268435456) := Lib.hid hr
  clear b2 hcl hsl hr
  rw [show (⟨(Lib.replaceAll (showW s.data.toList) [34] [92, 34]).toArray⟩ : ByteArray) = str (Lib.replaceAll (showW s.data.toList) [34] [92, 34]) from rfl]
  have hrs := HRS.out
  generalize str (Lib.replaceAll (showW s.data.toList) [34] [92, 34]) = K at HW hrs ⊢
  go_wp2_with fail
  go_ret
  exact ⟨ret_str HW.out, B2.out⟩

set_option maxRecDepth 100000 in
theorem inLine_any (s : ByteArray) (w : World) (hs : s.size ≤ 16777216) (hr : (Lib.replaceAll (showW s.data.toList) [34] [92, 34]).length ≤ 268435456) (he : En w) :
    Calls Tryd.prog 20 #[.string s] w fun e w' => e = .returned (.string (str (inW s.data.toList))) ∧ Below w.heap.size w w' := by
  have HE := Lib.hid he
  by_cases hp : plainW s.data.toList = true
  · have HV : Hid (inW s.data.toList = s.data.toList) := Lib.hid (if_pos hp)
    have HP := Lib.hid hp
    clear hp he hr
    go_enter Tryd.func20, Tryd.ntmps20
    go_wp2_with fail
    refine (isPlain_any s _ (by omega)).mono ?_
    rw [HP.out]
    rintro e w1 ⟨rfl, rfl⟩
    go_wp2_with fail
    go_ret
    rw [HV.out]
    exact ⟨rfl, Below.refl _ _⟩
  · have HV : Hid (inW s.data.toList = quoteW s.data.toList) := Lib.hid (if_neg hp)
    have HP : Hid (plainW s.data.toList = false) := Lib.hid (by simpa using hp)
    have HR := Lib.hid hr
    clear hp he hr
    go_enter Tryd.func20, Tryd.ntmps20
    go_wp2_with fail
    refine (isPlain_any s _ (by omega)).mono ?_
    rw [HP.out]
    rintro e w1 ⟨rfl, rfl⟩
    go_wp2_with fail
    refine (quote_any s _ hs HR.out HE.out).mono ?_
    rintro e w2 ⟨rfl, b2⟩
    have B2 := Lib.hid b2
    clear b2
    go_wp2_with fail
    go_ret
    rw [HV.out]
    exact ⟨rfl, B2.out⟩
end Go.Proofs.YtaoekpedjgnnjaaDoor.Wd
