/- The document's own Show, Width and Fit. -/
import Derived.Test.YtaoekpedjgnnjaaDoorRfR
import Derived.Test.YtaoekpedjgnnjaaDoorRfJ
import Derived.Test.YtaoekpedjgnnjaaDoorWeV
namespace Go.Proofs.YtaoekpedjgnnjaaDoor.Wd
open Go.ChangeShapes Go.WideShapes Go.ChangeAt Go.RowKit Own Bld Go.Lib Nums

theorem sh_tok (l : List UInt8) (hl : l ≠ []) : shQ (l.take (decodeL l).2) (pr l) false = tokP (l.take (decodeL l).2) (decodeL l).1 := by
  have hpl := part_len l hl
  unfold shQ tokP
  by_cases hh : hidn (l.take (decodeL l).2) (decodeL l).1 = true
  · rw [if_pos hh, if_pos]
    · rfl
    · unfold hidn at hh
      rw [hpl] at hh
      simp only [Bool.or_eq_true, Bool.and_eq_true, decide_eq_true_eq] at hh
      unfold pr
      split <;> omega
  · have hh' : hidn (l.take (decodeL l).2) (decodeL l).1 = false := by simpa using hh
    obtain ⟨hv, h32, h127⟩ := hidn_off hh'
    rw [hpl] at hv
    have hp : pr l = ((decodeL l).1 : Int) := by unfold pr; rw [if_neg hv]
    rw [if_neg hh, hp, if_neg (by omega)]
    by_cases h92 : (decodeL l).1 = 92
    · have he := encode_decode l hl hv
      rw [h92] at he
      have h2 : [UInt8.ofNat 92] = l.take (decodeL l).2 := (enc_low 92 (by decide)).symm.trans he
      rw [if_pos h92, if_pos (.inl (by omega)), ← h2]
      rfl
    · rw [if_neg h92, if_neg (by rintro (h | ⟨h, _⟩) <;> first | omega | exact absurd h (by decide))]
theorem runes_toks0 : ∀ (n : Nat) (l : List UInt8), l.length ≤ n → runesW l false = tokW l
  | 0, l, h => by
    rw [List.eq_nil_of_length_eq_zero (by omega : l.length = 0)]
    rfl
  | n + 1, l, h => by
    by_cases hl : l = []
    · subst hl
      rfl
    · have hd := drop_less l hl
      rw [tokW_step l hl, ← runes_toks0 n _ (by omega), ← sh_tok l hl]
      unfold runesW
      rw [pcsW_step l hl]
      rfl
theorem runes_toks (l : List UInt8) : runesW l false = tokW l := runes_toks0 _ l (Nat.le_refl _)
theorem src_take {w : World} {A : Option Addr} {m c : Nat} {xs : List Value} (h : Src w A m c xs) (k : Nat) (hk : k ≤ m) (hm : 0 < m) (c' : Nat) : Src w A k c' (xs.take k) := by
  rcases h with ⟨_, h0, _⟩ | ⟨ad, rfl, hlen, hc⟩
  · omega
  · refine .inr ⟨ad, rfl, by rw [List.length_take]; omega, fun j u hu => hc j u ?_⟩
    rw [List.getElem?_take] at hu
    split at hu
    · exact hu
    · cases hu
theorem strs_take (xs : List (List UInt8)) (k : Nat) : (strs xs).take k = strs (xs.take k) := by unfold strs; rw [List.map_take]

def padT (T : List (List UInt8)) (j : Nat) : List (List UInt8) := T ++ List.replicate j [32]
theorem pad_flat (T : List (List UInt8)) (j : Nat) : (padT T j).flatten = T.flatten ++ List.replicate j 32 := by
  unfold padT
  rw [List.flatten_append]
  congr 1
  induction j with
  | zero => rfl
  | succ j ih => rw [List.replicate_succ, List.flatten_cons, ih]; rfl
theorem pad_len (T : List (List UInt8)) (j : Nat) : (padT T j).flatten.length = T.flatten.length + j ∧ (padT T j).length = T.length + j := by
  rw [pad_flat]
  unfold padT
  simp
def slLen : Value → Nat
  | .slice _ k _ => k
  | _ => 0
theorem pad_0 (T : List (List UInt8)) : padT T 0 = T := List.append_nil T
theorem pad_step (T : List (List UInt8)) (j : Nat) : padT T (j + 1) = padT T j ++ [[32]] := by
  unfold padT
  rw [List.replicate_succ', List.append_assoc]
theorem strs_pad (T : List (List UInt8)) (j : Nat) : strs (padT T j) ++ [.string ⟨#[32]⟩] = strs (padT T (j + 1)) := by
  rw [pad_step, strs_app]
  rfl
theorem ret_pair {a b : ByteArray} (h : a = b) : Ending.returned (.tuple #[.string a, .int .i64 0]) = Ending.returned (.tuple #[.string b, .int .i64 0]) := by rw [h]
theorem own_srcS {w : World} {base : Nat} {e : TypeId} {A : Option Addr} {n c : Nat} {xs : List Value} (h : w.ownsRow base e 1 (.slice A n c) n xs) : Src w A n c xs := by
  obtain ⟨A', c', h1, h2⟩ := own_src h
  injection h1 with h3 _ h4
  subst h3 h4
  exact h2
set_option maxRecDepth 100000 in
theorem refFit_bad (s : ByteArray) (x : Int) (w : World) (hx0 : -9223372036854775808 ≤ x) (hx1 : x ≤ 9223372036854775807) (hx : x < 1 ∨ 4096 < x) :
    Calls Tryd.prog 15 #[.string s, .int .i64 x] w fun e w' => e = .returned (.tuple #[.string ⟨#[]⟩, .int .i64 1]) ∧ Below w.heap.size w w' := by
  by_cases h1 : x < 1
  case' pos => have t1 : decide (x < 1) = true := decide_eq_true h1
  case' neg =>
    have t1 : decide (x < 1) = false := decide_eq_false h1
    have t2 : decide (4096 < x) = true := decide_eq_true (by omega)
  all_goals
    go_enter Tryd.func15, Tryd.ntmps15
    go_wp2_with fail
    go_ret2
    exact ⟨rfl, Below.refl _ _⟩
set_option maxRecDepth 100000 in
set_option maxHeartbeats 4000000 in
theorem refFit_cut (s : ByteArray) (n : Nat) (w : World) (hs : s.size ≤ 16777216) (h1 : 1 ≤ n) (hn : n ≤ 4096) (hw : n < widthW s.data.toList) :
    Calls Tryd.prog 15 #[.string s, .int .i64 (n : Int)] w fun e w' => e = .returned (.tuple #[.string (str (fitW s.data.toList n)), .int .i64 0]) ∧ Below w.heap.size w w' := by
  have hz : s.data.toList.length = s.size := rfl
  have hwl := widthW_len _ s.data.toList (Nat.le_refl _)
  obtain ⟨_, _, t3⟩ := toks s.data.toList
  have HR := Lib.hid fun W => runes_any s false W hs
  rw [runes_toks] at HR
  have HV : Hid (fitW s.data.toList n = ((tokW s.data.toList).take (n - 1)).flatten ++ [126]) := Lib.hid (by unfold fitW; rw [if_neg (by omega)])
  have hhl := head_len s.data.toList (n - 1)
  have hlt : n < (tokW s.data.toList).length := by rw [t3]; exact hw
  have hb1 : (tokW s.data.toList).length ≤ 67108864 := by rw [t3]; omega
  clear hz hwl t3 hw
  generalize tokW s.data.toList = T at *
  have hb3 : (T.take (n - 1)).length ≤ 4096 := by rw [List.length_take]; omega
  have hb4 : ((T.take (n - 1)).flatten).length ≤ 16384 := by omega
  have HTL : Hid ((T.take (n - 1)).length = n - 1) := Lib.hid (by rw [List.length_take]; omega)
  have HA := Lib.hid (app_str (T.take (n - 1)).flatten [126])
  have t0 : decide ((n : Int) < 1) = false := decide_eq_false (by omega)
  have t1 : decide (4096 < (n : Int)) = false := decide_eq_false (by omega)
  have HN1 : Hid ((n : Int) - 1 = ((n - 1 : Nat) : Int)) := Lib.hid (by omega)
  clear hhl
  go_enter Tryd.func15, Tryd.ntmps15
  go_wp2_with fail
  refine (HR.out _).mono ?_
  rintro e w1 ⟨v, m, rfl, hm, ho, hb⟩
  obtain ⟨A, c, rfl, hsrc⟩ := own_src ho
  have hmc : m ≤ c := by
    rcases ho.2 with ⟨h0, h00⟩ | ⟨g, cap, cur, h0, _, _, h00, _⟩
    · omega
    · injection h0 with _ _ h3
      omega
  have B1 := Lib.hid hb
  have HS := Lib.hid hsrc
  have HN := Lib.hid hm
  have hm2 : n < m := by omega
  have hm3 : m ≤ 67108864 := by omega
  obtain ⟨ad, rfl⟩ : ∃ ad, A = some ad := by
    rcases hsrc with ⟨_, h0, _⟩ | ⟨ad, rfl, _⟩
    · omega
    · exact ⟨ad, rfl⟩
  clear hb ho hsrc hm
  have t2 : decide ((n : Int) < (m : Int)) = true := decide_eq_true (by omega)
  go_wp2_with fail
  have HST := Lib.hid (src_take HS.out (n - 1) (by omega) (by omega) c)
  rw [strs_take] at HST
  refine (joined_any (some ad) c (n - 1) (T.take (n - 1)) _ HTL.out.symm (by omega) (by omega) HST.out).mono ?_
  rintro e w2 ⟨rfl, b2⟩
  have B2 := Lib.hid (B1.out.trans (b2.mono B1.out.size))
  clear b2
  have hq : (str (T.take (n - 1)).flatten).size ≤ 16384 := by rw [str_size]; exact hb4
  generalize str (T.take (n - 1)).flatten = q at hq HA ⊢
  go_wp2_with fail
  go_ret2
  rw [HV.out]
  exact ⟨ret_pair HA.out, B2.out⟩

set_option maxRecDepth 100000 in
set_option maxHeartbeats 4000000 in
theorem refFit_pad (s : ByteArray) (n : Nat) (w : World) (hs : s.size ≤ 16777216) (h1 : 1 ≤ n) (hn : n ≤ 4096) (hw : widthW s.data.toList ≤ n) :
    Calls Tryd.prog 15 #[.string s, .int .i64 (n : Int)] w fun e w' => e = .returned (.tuple #[.string (str (fitW s.data.toList n)), .int .i64 0]) ∧ Below w.heap.size w w' := by
  obtain ⟨e1, _, t3⟩ := toks s.data.toList
  have HR := Lib.hid fun W => runes_any s false W hs
  rw [runes_toks] at HR
  have HV : Hid (fitW s.data.toList n = (padT (tokW s.data.toList) (n - (tokW s.data.toList).length)).flatten) := Lib.hid (by unfold fitW; rw [if_pos hw, pad_flat, e1, t3])
  have hlt : (tokW s.data.toList).length ≤ n := by rw [t3]; exact hw
  have hsl := showW_len _ s.data.toList (Nat.le_refl _)
  have hz : s.data.toList.length = s.size := rfl
  rw [← e1, hz] at hsl
  clear hz t3 hw e1
  generalize tokW s.data.toList = T at *
  have HPL : Hid (∀ j, (padT T j).flatten.length = T.flatten.length + j ∧ (padT T j).length = T.length + j) := Lib.hid (pad_len T)
  have t0 : decide ((n : Int) < 1) = false := decide_eq_false (by omega)
  have t1 : decide (4096 < (n : Int)) = false := decide_eq_false (by omega)
  go_enter Tryd.func15, Tryd.ntmps15
  go_wp2_with fail
  refine (HR.out _).mono ?_
  rintro e w1 ⟨v, m, rfl, hm, ho, hb⟩
  obtain ⟨A, c, rfl, hsrc⟩ := own_src ho
  have hsz := hb.size
  have B1 := Lib.hid hb
  have HO := Lib.hid ho
  have hm3 : m ≤ n := by omega
  have HN := Lib.hid hm
  clear hb ho hsrc hm
  have t2 : decide ((n : Int) < (m : Int)) = false := decide_eq_false (by omega)
  go_wp2_with fail
  go_loopw [6] (fun v6 wr => ∃ j A' c', m + j ≤ n ∧ v6 = .slice A' (m + j) c' ∧ wr.ownsRow w.heap.size 9 1 v6 (m + j) (strs (padT T j)) ∧ Below w.heap.size w wr) (fun v6 _ => n - slLen v6)
  case atStart => exact ⟨0, A, c, by omega, rfl, by rw [pad_0]; exact HO.out, B1.out⟩
  case round =>
    obtain ⟨j, A', c', hj, rfl, hown, hbw⟩ := hrel
    have HO2 := Lib.hid hown
    have HB2 := Lib.hid hbw
    have hsz2 := hbw.size
    clear hown hbw
    by_cases hlt2 : m + j < n
    · have t3 : decide (((m + j : Nat) : Int) < (n : Int)) = true := decide_eq_true (by omega)
      have HMJ : Hid (m + j + 1 = m + (j + 1)) := Lib.hid rfl
      have HSP := Lib.hid (strs_pad T j)
      obtain ⟨mj, hmj⟩ : ∃ mj, mj = m + j := ⟨_, rfl⟩
      rw [← hmj] at HO2 t3 HMJ hlt2 ⊢
      clear hmj hj
      go_wp2_with (at_builtin; go_must (refine wpList_append_src rfl (.tmp 29) (.tmp 30) 25 rfl w.heap.size 9 (.string ByteArray.empty) 16 Tryd.underlying25 info_str rfl _ mj _ rfl (own_alloc_drew HO2.out _) _ 1 1 _ rfl (src_cells' _ #[.string ⟨#[32]⟩] 9) (by intro u hu; simp at hu; subst hu; rfl) (by omega) (by omega) (by simp; omega) ?_); intro v3 w3 ho3 hg3; obtain ⟨A3, c3, rfl, hs3⟩ := own_src ho3; clear hs3)
      go_wp2_with fail
      rw [HSP.out] at ho3
      refine ⟨⟨j + 1, by have := HMJ.out; omega, HMJ.out, by rw [← HMJ.out]; exact ho3, grown_row (HB2.out.alloc hsz2 _) (HO2.out.alloc _) (Nat.le_refl _) (by simp; omega) hg3⟩, ?_⟩
      show n - (mj + 1) < n - mj
      omega
    · obtain rfl : n = m + j := by omega
      have HV2 : Hid (fitW s.data.toList (m + j) = (padT T j).flatten) := Lib.hid (by rw [HV.out]; have := HN.out; rw [show m + j - T.length = j by omega])
      have hpl := HPL.out j
      go_wp2_with fail
      refine (joined_any A' c' (m + j) (padT T j) _ (by have := HN.out; omega) (by omega) (by omega) (own_srcS HO2.out)).mono ?_
      rintro e w2 ⟨rfl, b2⟩
      have B2 := Lib.hid (HB2.out.trans (b2.mono HB2.out.size))
      clear b2
      go_wp2_with fail
      go_ret2
      exact ⟨show Ending.returned (.tuple #[.string (str (padT T j).flatten), .int .i64 0]) = _ by rw [HV2.out], B2.out⟩
end Go.Proofs.YtaoekpedjgnnjaaDoor.Wd
