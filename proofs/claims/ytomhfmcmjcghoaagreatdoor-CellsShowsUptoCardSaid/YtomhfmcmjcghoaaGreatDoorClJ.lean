/- The contracts of Look, the document's and the program's: one and the same. -/
import Derived.Test.YtomhfmcmjcghoaaGreatDoorClH
namespace Go.Proofs.YtomhfmcmjcghoaaGreatDoor.Cl
open Go.ChangeShapes Go.WideShapes Go.ChangeAt Go.RowKit Own

/-- A byte that can be shown as it is. -/
def pr (c : UInt8) : Bool := decide (32 ≤ c.toNat) && decide (c.toNat ≤ 126)
/-- A text that looks like one. -/
def goodB (t : List UInt8) : Bool := !t.isEmpty && t.all pr
/-- The program's way: byte by byte, with the byte ahead. -/
def ar : UInt8 → List UInt8 → Bool
  | last, [] => last == 0
  | last, c :: l => if c = 0 ∧ last = 0 then false else if c ≠ 0 ∧ pr c = false then false else ar c l
def plainB (l : List UInt8) : Bool := (split [] l).2.isEmpty && !(split [] l).1.isEmpty && (split [] l).1.all goodB
theorem split_begins : ∀ (l cur : List UInt8), (∃ s, (split cur l).1 = [] ∧ (split cur l).2 = cur ++ s) ∨ ∃ s r, (split cur l).1 = (cur ++ s) :: r
  | [], cur => .inl ⟨[], by simp [split]⟩
  | c :: l, cur => by
    unfold split
    by_cases hc : c = 0
    · rw [if_pos hc]
      exact .inr ⟨[], _, by rw [List.append_nil]⟩
    · rw [if_neg hc]
      rcases split_begins l (cur ++ [c]) with ⟨s, h1, h2⟩ | ⟨s, r, h⟩
      · exact .inl ⟨c :: s, h1, by rw [h2]; simp⟩
      · exact .inr ⟨c :: s, r, by rw [h]; simp⟩
theorem ar_split : ∀ (l cur : List UInt8) (last : UInt8), cur.all pr = true → (last = 0 ↔ cur = []) → ar last l = ((split cur l).2.isEmpty && (split cur l).1.all goodB)
  | [], cur, last, _, hl => by
    unfold ar split
    by_cases h : last = 0
    · simp [h, hl.1 h]
    · have : cur ≠ [] := fun hc => h (hl.2 hc)
      have h1 : (last == 0) = false := by rw [beq_eq_false_iff_ne]; exact h
      simp [h1, this]
  | c :: l, cur, last, hp, hl => by
    unfold ar split
    by_cases hc : c = 0
    · rw [if_pos hc]
      by_cases h0 : last = 0
      · rw [if_pos ⟨hc, h0⟩, hl.1 h0]
        simp [goodB]
      · rw [if_neg (by simp [h0]), if_neg (by simp [hc]), ar_split l [] c (by simp) (by simp [hc])]
        have hcur : cur ≠ [] := fun h => h0 (hl.2 h)
        simp only [List.all_cons]
        have hg : goodB cur = true := by unfold goodB; rw [hp]; simp [hcur]
        rw [hg, Bool.true_and]
    · rw [if_neg hc, if_neg (by simp [hc])]
      by_cases hpc : pr c = false
      · rw [if_pos ⟨hc, hpc⟩]
        rcases split_begins l (cur ++ [c]) with ⟨s, h1, h2⟩ | ⟨s, r, h⟩
        · rw [h2]; simp
        · rw [h]
          simp [goodB, hpc]
      · have hpc' : pr c = true := by simpa using hpc
        rw [if_neg (by simp [hpc']), ar_split l (cur ++ [c]) c (by rw [List.all_append, hp]; simp [hpc']) (by simp [hc])]
theorem split_cons' (l : List UInt8) (h : zat l < l.length) : split [] l = (l.take (zat l) :: (split [] (l.drop (zat l + 1))).1, (split [] (l.drop (zat l + 1))).2) := by
  have h1 := split_append (l.take (zat l + 1)) (l.drop (zat l + 1)) []
  rw [List.take_append_drop] at h1
  have h2 := split_next [] l [] rfl h
  simp only [List.nil_append] at h2
  rw [h1, h2]
  simp
theorem ret_bool {a b : Bool} (h : a = b) : Ending.returned (.bool a) = .returned (.bool b) := by rw [h]
theorem ar_plain (l : List UInt8) (h : l ≠ []) : ar 0 l = plainB l := by
  rw [ar_split l [] 0 (by simp) (by simp)]
  unfold plainB
  have hne : (split [] l).2.isEmpty = true → (split [] l).1.isEmpty = false := by
    intro h2
    by_cases h1 : zat l < l.length
    · rw [split_cons' l h1]; rfl
    · have := split_end [] l [] rfl (by omega)
      simp only [List.nil_append] at this
      rw [this] at h2
      simp at h2
      exact absurd h2 h
  cases h2 : (split [] l).2.isEmpty
  · simp
  · rw [hne h2]; simp

set_option maxHeartbeats 1000000 in
theorem areTexts_any (v : ByteArray) (w : World) (hv : v.size ≤ maxLen) :
    Calls Tryz.prog 51 #[.string v] w fun e w' => e = .returned (.bool (ar 0 v.data.toList)) ∧ w = w' := by
  unfold maxLen at hv
  have hz : v.data.toList.length = v.size := rfl
  have HZ := Lib.hid hz
  clear hz
  go_enter Tryz.func51, Tryz.ntmps51
  go_wp2
  go_loop [3, 8] (fun s i => ∃ (k : Nat) (last : UInt8), k ≤ v.size ∧ i = .int .i64 k ∧ s = .int .u8 (last.toNat : Int) ∧ ar 0 v.data.toList = ar last (v.data.toList.drop k)) (fun _ i => v.size - (intOf i).toNat)
  case atStart => exact ⟨0, 0, by omega, rfl, rfl, rfl⟩
  case round =>
    obtain ⟨k, last, hk, rfl, rfl, har⟩ := hrel
    by_cases hlt : k < v.size
    · have hd : v.data.toList.drop k = v[k] :: v.data.toList.drop (k + 1) := by
        rw [List.drop_eq_getElem_cons (by rw [HZ.out]; exact hlt)]; rfl
      rw [hd, ar] at har
      clear hd
      have u0 : ∀ c : UInt8, (c.toNat : Int) = 0 ↔ c = 0 := fun c => ⟨fun h => UInt8.toNat_inj.1 (by simpa using h), fun h => by rw [h]; rfl⟩
      have hpr : pr v[k] = (decide (32 ≤ v[k].toNat) && decide (v[k].toNat ≤ 126)) := rfl
      have HPR := Lib.hid hpr
      clear hpr
      by_cases hc : v[k] = 0
      · have b1 : ((v[k].toNat : Int) == 0) = true := by rw [beq_iff_eq]; exact (u0 _).2 hc
        have b2 : ((v[k].toNat : Int) != 0) = false := by rw [bne_eq_false_iff_eq]; exact (u0 _).2 hc
        by_cases hl : last = 0
        · rw [if_pos ⟨hc, hl⟩] at har
          have b3 : ((last.toNat : Int) == 0) = true := by rw [beq_iff_eq]; exact (u0 _).2 hl
          have HA := Lib.hid har
          clear har u0 hc hl
          go_wp2
          go_ret
          rw [HA.out]
          exact ⟨rfl, rfl⟩
        · rw [if_neg (by simp [hl]), if_neg (by simp [hc])] at har
          have b3 : ((last.toNat : Int) == 0) = false := by rw [beq_eq_false_iff_ne]; exact fun h => hl ((u0 _).1 h)
          have HA := Lib.hid har
          clear har u0 hc hl
          go_wp2
          go_round
          case rel => exact ⟨k + 1, v[k], by omega, by go_num, rfl, HA.out⟩
          case measure => simp [intOf]; omega
      · have b1 : ((v[k].toNat : Int) == 0) = false := by rw [beq_eq_false_iff_ne]; exact fun h => hc ((u0 _).1 h)
        have b2 : ((v[k].toNat : Int) != 0) = true := by rw [bne_iff_ne]; exact fun h => hc ((u0 _).1 h)
        rw [if_neg (by simp [hc])] at har
        by_cases h32 : v[k].toNat < 32
        · rw [if_pos ⟨hc, by rw [HPR.out]; simp; omega⟩] at har
          have HA := Lib.hid har
          clear har u0 hc
          go_wp2
          go_ret
          rw [HA.out]
          exact ⟨rfl, rfl⟩
        · by_cases h126 : 126 < v[k].toNat
          · rw [if_pos ⟨hc, by rw [HPR.out]; simp; omega⟩] at har
            have HA := Lib.hid har
            clear har u0 hc
            go_wp2
            go_ret
            rw [HA.out]
            exact ⟨rfl, rfl⟩
          · rw [if_neg (by rw [HPR.out]; simp; omega)] at har
            have HA := Lib.hid har
            clear har u0 hc
            go_wp2
            go_round
            case rel => exact ⟨k + 1, v[k], by omega, by go_num, rfl, HA.out⟩
            case measure => simp [intOf]; omega
    · obtain rfl : k = v.size := by omega
      rw [List.drop_eq_nil_of_le (by rw [HZ.out]; omega), ar] at har
      have hb : ((last.toNat : Int) == 0) = (last == 0) := by
        rw [Bool.eq_iff_iff, beq_iff_eq, beq_iff_eq]
        exact ⟨fun h => UInt8.toNat_inj.1 (by simpa using h), fun h => by rw [h]; rfl⟩
      have HA := Lib.hid har
      have HBB := Lib.hid hb
      clear har hb
      go_wp2
      go_ret
      rw [HA.out]
      exact ⟨ret_bool HBB.out, rfl⟩

theorem split_part : ∀ (l cur : List UInt8), ∀ t ∈ (split cur l).1, t.length ≤ cur.length + l.length
  | [], cur, t, h => by simp [split] at h
  | c :: l, cur, t, h => by
    unfold split at h
    by_cases hc : c = 0
    · rw [if_pos hc] at h
      rcases List.mem_cons.1 h with rfl | h
      · omega
      · have := split_part l [] t h
        simp at this
        simp
        omega
    · rw [if_neg hc] at h
      have := split_part l (cur ++ [c]) t h
      simp at this
      simp
      omega
theorem tx_size (l : List UInt8) (k : Nat) : ((tx l).getD k ByteArray.empty).size ≤ l.length := by
  rw [List.getD_eq_getElem?_getD]
  cases h : (tx l)[k]? with
  | none => exact Nat.zero_le _
  | some s =>
    have hm := List.mem_of_getElem? h
    unfold tx at hm
    by_cases hc : (split [] l).2 = []
    · rw [if_pos hc] at hm
      obtain ⟨t, ht, rfl⟩ := List.mem_map.1 hm
      have := split_part l [] t ht
      simpa [str, ByteArray.size] using this
    · rw [if_neg hc] at hm
      simp at hm
theorem all_false {xs : List ByteArray} {k : Nat} (hk : k < xs.length) (h : goodB (xs.getD k ByteArray.empty).data.toList = false) : (xs.all fun s => goodB s.data.toList) = false := by
  rw [List.all_eq_false]
  refine ⟨xs.getD k ByteArray.empty, ?_, by rw [h]; exact Bool.false_ne_true⟩
  rw [List.getD_eq_getElem?_getD, List.getElem?_eq_getElem hk]
  exact List.getElem_mem hk
theorem all_step {xs : List ByteArray} {k : Nat} (hk : k < xs.length) (h : ((xs.take k).all fun s => goodB s.data.toList) = true) (hg : goodB (xs.getD k ByteArray.empty).data.toList = true) : ((xs.take (k + 1)).all fun s => goodB s.data.toList) = true := by
  rw [List.take_succ_eq_append_getElem hk, List.all_append, h]
  rw [List.getD_eq_getElem?_getD, List.getElem?_eq_getElem hk] at hg
  simpa using hg
theorem pr_false {s : ByteArray} {j : Nat} (hj : j < s.size) (h : pr s[j] = false) : goodB s.data.toList = false := by
  unfold goodB
  have : s.data.toList.all pr = false := by
    rw [List.all_eq_false]
    exact ⟨s[j], by
      have h1 : j < s.data.toList.length := hj
      exact List.getElem_mem h1, by simp [h]⟩
  rw [this, Bool.and_false]
theorem pr_step {s : ByteArray} {j : Nat} (hj : j < s.size) (h : (s.data.toList.take j).all pr = true) (hp : pr s[j] = true) : (s.data.toList.take (j + 1)).all pr = true := by
  rw [take_snoc s j hj, List.all_append, h]
  simp [hp]

set_option maxHeartbeats 2000000 in
theorem plain_any (v : ByteArray) (w : World) (hv : v.size ≤ 67108864) :
    Calls Tryz.prog 56 #[.string v] w fun e w' => e = .returned (.bool (plainB v.data.toList)) ∧ Below w.heap.size w w' := by
  go_enter Tryz.func56, Tryz.ntmps56
  go_wp2_with fail
  refine (refTexts_any v _ (by omega)).mono ?_
  rintro e w1 ⟨A, n, c, hn, rfl, ho, hb⟩
  have HB := Lib.hid hb
  clear hb
  by_cases hm : (split [] v.data.toList).2 = []
  · have hE : etx v.data.toList = 0 := if_pos hm
    have hT : tx v.data.toList = (split [] v.data.toList).1.map str := if_pos hm
    have hPl : plainB v.data.toList = (!(tx v.data.toList).isEmpty && (tx v.data.toList).all fun s => goodB s.data.toList) := by
      unfold plainB
      rw [hT, hm]
      simp [List.all_map, str_list, Function.comp_def]
    rw [hE]
    rw [strs_len] at hn
    have hnb : n ≤ 67108864 := by
      have h1 := split_len v.data.toList []
      have h2 : v.data.toList.length = v.size := rfl
      rw [hn, hT, List.length_map]
      omega
    have HSZ : Hid (∀ k, ((tx v.data.toList).getD k ByteArray.empty).size ≤ v.size) := Lib.hid (tx_size v.data.toList)
    generalize tx v.data.toList = xs at hn hPl ho HSZ
    clear hT hE hm
    have HP := Lib.hid hPl
    clear hPl
    subst hn
    by_cases h0 : xs.length = 0
    · have hx : xs = [] := List.eq_nil_of_length_eq_zero h0
      subst hx
      have HP2 : Hid (plainB v.data.toList = false) := Lib.hid (by rw [HP.out]; rfl)
      clear h0 HP ho
      go_wp2_with fail
      go_ret
      rw [HP2.out]
      exact ⟨rfl, HB.out⟩
    · have hne : ((xs.length : Int) == 0) = false := by rw [beq_eq_false_iff_ne]; omega
      obtain ⟨A', c', hv', hs⟩ := own_src ho
      injection hv' with hA _ hcc
      subst hA hcc
      obtain ⟨b, off, rfl, _, hcell⟩ := src_get hs (by omega)
      have HC := Lib.hid hcell
      clear hcell hs ho
      have HNE : Hid (xs.isEmpty = false) := Lib.hid (by
        rw [List.isEmpty_eq_false_iff]
        rintro rfl
        exact h0 rfl)
      go_wp2_with fail
      go_loop [5, 6] (fun i _ => ∃ k : Nat, k ≤ xs.length ∧ i = .int .i64 k ∧ ((xs.take k).all fun s => goodB s.data.toList) = true) (fun i _ => xs.length - (intOf i).toNat)
      case atStart => exact ⟨0, by omega, rfl, rfl⟩
      case round =>
        obtain ⟨k, hk, rfl, hall⟩ := hrel
        have HALL := Lib.hid hall
        clear hall
        by_cases hlt : k < xs.length
        · have e1 := HC.out k _ (strs_at xs k hlt)
          have HF := Lib.hid (fun h => all_false hlt h)
          have HS := Lib.hid (fun h => all_step hlt HALL.out h)
          have hsz := HSZ.out k
          generalize xs.getD k ByteArray.empty = s at e1 HF HS hsz
          by_cases hs0 : s.size = 0
          · have hs1 : s = ByteArray.empty := bytes_ext (List.eq_nil_of_length_eq_zero (by show s.size = 0; exact hs0))
            subst hs1
            have HP2 : Hid (plainB v.data.toList = false) := Lib.hid (by rw [HP.out, HF.out rfl, Bool.and_false])
            clear hs0
            go_wp2_with fail
            go_ret
            rw [HP2.out]
            exact ⟨rfl, HB.out⟩
          · have hse : s.toList.isEmpty = false := by
              rw [Lib.toList_data, List.isEmpty_eq_false_iff]
              intro h
              have h2 : s.data.toList.length = s.size := rfl
              rw [h] at h2
              simp at h2
              omega
            go_wp2_with fail
            go_loop [6] (fun q => ∃ j : Nat, j ≤ s.size ∧ q = .int .i64 j ∧ (s.data.toList.take j).all pr = true) (fun q => s.size - (intOf q).toNat)
            case atStart => exact ⟨0, by omega, rfl, rfl⟩
            case round =>
              obtain ⟨j, hj, rfl, hpa⟩ := hrel
              have HPA := Lib.hid hpa
              clear hpa
              by_cases hjl : j < s.size
              · have hpr : pr s[j] = (decide (32 ≤ s[j].toNat) && decide (s[j].toNat ≤ 126)) := rfl
                have HPR := Lib.hid hpr
                have HPF := Lib.hid (fun h => pr_false hjl h)
                have HPS := Lib.hid (fun h => pr_step hjl HPA.out h)
                clear hpr
                by_cases h32 : s[j].toNat < 32
                · have HP2 : Hid (plainB v.data.toList = false) := Lib.hid (by rw [HP.out, HF.out (HPF.out (by rw [HPR.out]; simp; omega)), Bool.and_false])
                  go_wp2_with fail
                  go_ret
                  rw [HP2.out]
                  exact ⟨rfl, HB.out⟩
                · by_cases h126 : 126 < s[j].toNat
                  · have HP2 : Hid (plainB v.data.toList = false) := Lib.hid (by rw [HP.out, HF.out (HPF.out (by rw [HPR.out]; simp; omega)), Bool.and_false])
                    go_wp2_with fail
                    go_ret
                    rw [HP2.out]
                    exact ⟨rfl, HB.out⟩
                  · have HT := Lib.hid (HPS.out (by rw [HPR.out]; simp; omega))
                    go_wp2_with fail
                    go_round
                    case rel => exact ⟨j + 1, by omega, by go_num, HT.out⟩
                    case measure => simp [intOf]; omega
              · obtain rfl : j = s.size := by omega
                have HG := Lib.hid (HS.out (by
                  unfold goodB
                  have h1 := HPA.out
                  have h2 : s.data.toList.take s.size = s.data.toList := List.take_of_length_le (Nat.le_refl s.data.toList.length)
                  rw [h2] at h1
                  rw [Lib.toList_data] at hse
                  rw [h1, hse]
                  rfl))
                go_wp2_with fail
                go_round
                case rel => exact ⟨k + 1, by omega, by go_num, HG.out⟩
                case measure => simp [intOf]; omega
        · obtain rfl : k = xs.length := by omega
          have HP2 : Hid (plainB v.data.toList = true) := Lib.hid (by
            have := HALL.out
            rw [List.take_of_length_le (Nat.le_refl _)] at this
            rw [HP.out, HNE.out, this]
            rfl)
          go_wp2_with fail
          go_ret
          rw [HP2.out]
          exact ⟨rfl, HB.out⟩
  · have hE : etx v.data.toList = 4 := if_neg hm
    have HP : Hid (plainB v.data.toList = false) := Lib.hid (by
      unfold plainB
      have : (split [] v.data.toList).2.isEmpty = false := by rw [List.isEmpty_eq_false_iff]; exact hm
      rw [this, Bool.false_and, Bool.false_and])
    rw [hE]
    clear hn ho hm hE
    go_wp2_with fail
    go_ret
    rw [HP.out]
    exact ⟨rfl, HB.out⟩

def lookV (l : List UInt8) : Int := if l = [] then 0 else if plainB l then 1 else if l.length % 4 = 0 then 2 else 3

theorem refLook_any (v : ByteArray) (w : World) (hv : v.size ≤ 67108864) :
    Calls Tryz.prog 29 #[.string v] w fun e w' => e = .returned (.int .u8 (lookV v.data.toList)) ∧ Below w.heap.size w w' := by
  have hz : v.data.toList.length = v.size := rfl
  have HZ := Lib.hid hz
  clear hz
  by_cases hs0 : v.size = 0
  · have hs1 : v = ByteArray.empty := bytes_ext (List.eq_nil_of_length_eq_zero (by rw [HZ.out, hs0]))
    subst hs1
    clear hs0 HZ hv
    go_enter Tryz.func29, Tryz.ntmps29
    go_wp2_with fail
    go_ret
    exact ⟨rfl, Below.refl _ _⟩
  · have hne : v.data.toList ≠ [] := by
      intro h
      have h2 := HZ.out
      rw [h] at h2
      simp at h2
      omega
    have hse : v.toList.isEmpty = false := by rw [Lib.toList_data, List.isEmpty_eq_false_iff]; exact hne
    have HL : Hid (lookV v.data.toList = if plainB v.data.toList then 1 else if v.size % 4 = 0 then 2 else 3) := Lib.hid (by
      unfold lookV; rw [if_neg hne, HZ.out])
    have HAR := Lib.hid (ar_plain v.data.toList hne)
    clear hne
    go_enter Tryz.func29, Tryz.ntmps29
    go_wp2_with fail
    refine (plain_any v _ hv).mono ?_
    rintro e w1 ⟨rfl, hb⟩
    have HB := Lib.hid hb
    clear hb
    by_cases hp : plainB v.data.toList = true
    · rw [hp] at HL ⊢
      go_wp2_with fail
      go_ret
      rw [HL.out]
      exact ⟨rfl, HB.out⟩
    · have hp' : plainB v.data.toList = false := by simpa using hp
      rw [hp'] at HL ⊢
      by_cases h4 : v.size % 4 = 0
      · have HL2 : Hid (lookV v.data.toList = 2) := Lib.hid (by rw [HL.out, if_neg (by decide), if_pos h4])
        have h4' : ((v.size : Int) % 4 == 0) = true := by rw [beq_iff_eq]; omega
        clear h4 hp hp'
        go_wp2_with fail
        go_ret
        rw [HL2.out]
        exact ⟨rfl, HB.out⟩
      · have HL2 : Hid (lookV v.data.toList = 3) := Lib.hid (by rw [HL.out, if_neg (by decide), if_neg h4])
        have h4' : ((v.size : Int) % 4 == 0) = false := by rw [beq_eq_false_iff_ne]; omega
        clear h4 hp hp'
        go_wp2_with fail
        go_ret
        rw [HL2.out]
        exact ⟨rfl, HB.out⟩

theorem progLook_any (v : ByteArray) (w : World) (hv : v.size ≤ 67108864) :
    Calls Tryz.prog 22 #[.string v] w fun e w' => e = .returned (.int .u8 (lookV v.data.toList)) ∧ Below w.heap.size w w' := by
  have hz : v.data.toList.length = v.size := rfl
  have HZ := Lib.hid hz
  clear hz
  by_cases hs0 : v.size = 0
  · have hs1 : v = ByteArray.empty := bytes_ext (List.eq_nil_of_length_eq_zero (by rw [HZ.out, hs0]))
    subst hs1
    clear hs0 HZ hv
    go_enter Tryz.func22, Tryz.ntmps22
    go_wp2_with fail
    go_ret
    exact ⟨rfl, Below.refl _ _⟩
  · have hne : v.data.toList ≠ [] := by
      intro h
      have h2 := HZ.out
      rw [h] at h2
      simp at h2
      omega
    have hse : v.toList.isEmpty = false := by rw [Lib.toList_data, List.isEmpty_eq_false_iff]; exact hne
    have HL : Hid (lookV v.data.toList = if plainB v.data.toList then 1 else if v.size % 4 = 0 then 2 else 3) := Lib.hid (by
      unfold lookV; rw [if_neg hne, HZ.out])
    have HAR := Lib.hid (ar_plain v.data.toList hne)
    clear hne
    go_enter Tryz.func22, Tryz.ntmps22
    go_wp2_with fail
    refine (areTexts_any v _ (by unfold maxLen; omega)).mono ?_
    rintro e w1 ⟨rfl, rfl⟩
    rw [HAR.out]
    have HB := Lib.hid (Below.refl w.heap.size w)
    by_cases hp : plainB v.data.toList = true
    · rw [hp] at HL ⊢
      go_wp2_with fail
      go_ret
      rw [HL.out]
      exact ⟨rfl, HB.out⟩
    · have hp' : plainB v.data.toList = false := by simpa using hp
      rw [hp'] at HL ⊢
      by_cases h4 : v.size % 4 = 0
      · have HL2 : Hid (lookV v.data.toList = 2) := Lib.hid (by rw [HL.out, if_neg (by decide), if_pos h4])
        have h4' : ((v.size : Int) % 4 == 0) = true := by rw [beq_iff_eq]; omega
        clear h4 hp hp'
        go_wp2_with fail
        go_ret
        rw [HL2.out]
        exact ⟨rfl, HB.out⟩
      · have HL2 : Hid (lookV v.data.toList = 3) := Lib.hid (by rw [HL.out, if_neg (by decide), if_neg h4])
        have h4' : ((v.size : Int) % 4 == 0) = false := by rw [beq_eq_false_iff_ne]; omega
        clear h4 hp hp'
        go_wp2_with fail
        go_ret
        rw [HL2.out]
        exact ⟨rfl, HB.out⟩
end Go.Proofs.YtomhfmcmjcghoaaGreatDoor.Cl
