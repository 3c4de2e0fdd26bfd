/- The contracts of fit and Fit at a clear text. -/
import Derived.Test.YtaoekpedjgnnjaaDoorWdK
namespace Go.Proofs.YtaoekpedjgnnjaaDoor.Wd
open Go.ChangeShapes Go.WideShapes Go.ChangeAt Go.RowKit Own Bld Go.Lib Nums

/-- A clear text is shown as itself, a rune for a byte. -/
theorem clear_list : ∀ l : List UInt8, (∀ c ∈ l, 32 ≤ c.toNat ∧ c.toNat ≤ 126 ∧ c ≠ 92) → showW l = l ∧ widthW l = l.length
  | [], _ => ⟨rfl, rfl⟩
  | c :: l, h => by
    have ih := clear_list l (fun d hd => h d (List.mem_cons_of_mem _ hd))
    have hc := h c List.mem_cons_self
    have hd : decodeL (c :: l) = (c.toNat, 1) := decodeL_ascii _ _ (by omega)
    have h4 : hidn [c] c.toNat = false := by
      unfold hidn
      rw [decide_eq_false (by omega : ¬ c.toNat = 65533), decide_eq_false (by omega : ¬ c.toNat < 32), decide_eq_false (by omega : ¬ 127 ≤ c.toNat)]
      rfl
    have h5 : c.toNat ≠ 92 := fun h => hc.2.2 (UInt8.toNat_inj.1 (by show c.toNat = 92; omega))
    rw [showW_step _ (by simp), widthW_step _ (by simp), hd]
    show shownP [c] c.toNat ++ showW l = _ ∧ widthP [c] c.toNat + widthW l = _
    rw [clear_shown hc.1 hc.2.1 hc.2.2, ih.1, ih.2]
    refine ⟨rfl, ?_⟩
    unfold widthP
    rw [h4, if_neg (by decide), if_neg h5, List.length_cons]
    omega
theorem Clear.list {s : ByteArray} (h : Clear s) : ∀ c ∈ s.data.toList, 32 ≤ c.toNat ∧ c.toNat ≤ 126 ∧ c ≠ 92 := by
  intro c hc
  obtain ⟨i, hi, e⟩ := List.mem_iff_getElem.1 hc
  have h2 := h i hi
  rw [← e]
  exact h2
/-- A clear text in just n runes. -/
def fitL (l : List UInt8) (n : Nat) : List UInt8 := if l.length ≤ n then l ++ List.replicate (n - l.length) 32 else l.take (n - 1) ++ [126]
theorem app_str (a b : List UInt8) : str a ++ str b = str (a ++ b) := bytes_ext (by simp [str])

set_option maxRecDepth 100000 in
theorem fit_any (s : ByteArray) (n : Nat) (w : World) (hs : s.size ≤ 67108864) (h1 : 1 ≤ n) (hn : n ≤ 4096) (hc : Clear s) (hT : U8 w) :
    Calls Tryd.prog 31 #[.string s, .int .i64 (n : Int)] w fun e w' => e = .returned (.string (str (fitL s.data.toList n))) ∧ Below w.heap.size w w' := by
  have HT := Lib.hid hT
  have HC := Lib.hid hc
  have hz : s.data.toList.length = s.size := rfl
  have cl := clear_list _ hc.list
  by_cases hle : s.size ≤ n
  · have HV : Hid (fitL s.data.toList n = s.data.toList ++ List.replicate (n - s.size) 32) := Lib.hid (by unfold fitL; rw [hz, if_pos hle])
    have t0 : decide ((n : Int) - (s.size : Int) < 0) = false := decide_eq_false (by omega)
    have HN : Hid ((n : Int) - (s.size : Int) = ((n - s.size : Nat) : Int)) := Lib.hid (by omega)
    have HW : Hid ((widthW s.data.toList : Int) = (s.size : Int)) := Lib.hid (by rw [cl.2, hz])
    have HS := Lib.hid cl.1
    have HR : Hid ((⟨(Lib.repeatL (⟨#[32]⟩ : ByteArray).data.toList (n - s.size)).toArray⟩ : ByteArray) = str (List.replicate (n - s.size) 32)) := Lib.hid (by
      have h := Lib.repeatL_replicate 32 1 (n - s.size)
      rw [Nat.mul_one] at h
      exact congrArg str h)
    have hk : n - s.size ≤ 4096 := by omega
    have HA := Lib.hid (app_str s.data.toList (List.replicate (n - s.size) 32))
    have hps : (str (List.replicate (n - s.size) 32)).size ≤ 4096 := by rw [str_size, List.length_replicate]; omega
    clear cl hz hT hc
    go_enter Tryd.func31, Tryd.ntmps31
    go_wp2_with fail
    refine (width_any s _ hs HT.out).mono ?_
    rintro e w1 ⟨rfl, b1⟩
    have B1 := Lib.hid b1
    clear b1
    rw [HW.out]
    go_wp2_with fail
    refine (show_any s _ hs (HT.out.below B1.out)).mono ?_
    rintro e w2 ⟨rfl, b2⟩
    have B2 := Lib.hid (B1.out.trans (b2.mono B1.out.size))
    clear b2
    rw [HS.out]
    go_wp2_with fail
    rw [HN.out]
    refine (Tryd.strings_Repeat ⟨#[32]⟩ (n - s.size) _ (by omega) (by show 1 * _ ≤ _; omega)).mono ?_
    rintro e w3 ⟨rfl, b3⟩
    have B3 := Lib.hid (B2.out.trans (b3.mono B2.out.size))
    clear b3
    rw [HR.out, str_of]
    rw [str_of] at HA
    generalize str (List.replicate (n - s.size) 32) = P at HA hps ⊢
    go_wp2_with fail
    go_ret
    rw [HV.out]
    exact ⟨ret_str HA.out, B3.out⟩
  · have HV : Hid (fitL s.data.toList n = s.data.toList.take (n - 1) ++ [126]) := Lib.hid (by unfold fitL; rw [hz, if_neg hle])
    have t0 : decide ((n : Int) - (s.size : Int) < 0) = true := decide_eq_true (by omega)
    have HN : Hid ((n : Int) - 1 = ((n - 1 : Nat) : Int)) := Lib.hid (by omega)
    have HW : Hid ((widthW s.data.toList : Int) = (s.size : Int)) := Lib.hid (by rw [cl.2, hz])
    have HA := Lib.hid (app_str (s.data.toList.take (n - 1)) [126])
    have hps : (str (s.data.toList.take (n - 1))).size ≤ 4096 := by rw [str_size, List.length_take]; omega
    clear cl hz hT hc
    go_enter Tryd.func31, Tryd.ntmps31
    go_wp2_with fail
    refine (width_any s _ hs HT.out).mono ?_
    rintro e w1 ⟨rfl, b1⟩
    have B1 := Lib.hid b1
    clear b1
    rw [HW.out]
    go_wp2_with fail
    rw [HN.out]
    refine (shownHead_any s (n - 1) _ hs (by omega) HC.out (HT.out.below B1.out)).mono ?_
    rintro e w2 ⟨rfl, b2⟩
    have B2 := Lib.hid (B1.out.trans (b2.mono B1.out.size))
    clear b2
    generalize str (s.data.toList.take (n - 1)) = P at HA hps ⊢
    go_wp2_with fail
    go_ret
    rw [HV.out]
    exact ⟨ret_str HA.out, B2.out⟩
end Go.Proofs.YtaoekpedjgnnjaaDoor.Wd
