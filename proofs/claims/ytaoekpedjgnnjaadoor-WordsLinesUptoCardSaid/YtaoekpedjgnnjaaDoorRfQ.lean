/- The document's own Quote. -/
import Derived.Test.YtaoekpedjgnnjaaDoorRfF
import Derived.Test.YtaoekpedjgnnjaaDoorWdG
import Derived.Test.YtaoekpedjgnnjaaDoorWeM
namespace Go.Proofs.YtaoekpedjgnnjaaDoor.Wd
open Go.ChangeShapes Go.WideShapes Go.ChangeAt Go.RowKit Own Bld Go.Lib Nums

theorem escs_qe : ∀ p : List UInt8, (p.flatMap escB).flatMap qe = p.flatMap escB
  | [] => rfl
  | c :: p => by rw [List.flatMap_cons, List.flatMap_append, esc_qe, escs_qe p]
theorem high_qe : ∀ p : List UInt8, (∀ c ∈ p, 128 ≤ c.toNat) → p.flatMap qe = p
  | [], _ => rfl
  | c :: p, h => by
    have hc := h c List.mem_cons_self
    have h1 : c ≠ 34 := fun e => by rw [e] at hc; exact absurd hc (by decide)
    rw [List.flatMap_cons, high_qe p fun d hd => h d (List.mem_cons_of_mem _ hd)]
    unfold qe
    rw [if_neg h1]
    rfl
theorem sh_quote (l : List UInt8) (hl : l ≠ []) : (shQ (l.take (decodeL l).2) (pr l) true).flatten = (shownP (l.take (decodeL l).2) (decodeL l).1).flatMap qe := by
  have hpl := part_len l hl
  unfold shQ shownP
  by_cases hh : hidn (l.take (decodeL l).2) (decodeL l).1 = true
  · rw [if_pos hh, if_pos]
    · exact (flat_one _).trans (escs_qe _).symm
    · unfold hidn at hh
      rw [hpl] at hh
      simp only [Bool.or_eq_true, Bool.and_eq_true, decide_eq_true_eq] at hh
      unfold pr
      split <;> omega
  · have hh' : hidn (l.take (decodeL l).2) (decodeL l).1 = false := by simpa using hh
    obtain ⟨hv, h32, h127⟩ := hidn_off hh'
    rw [hpl] at hv
    have hp : pr l = ((decodeL l).1 : Int) := by unfold pr; rw [if_neg hv]
    have he := encode_decode l hl hv
    rw [if_neg hh, hp, if_neg (by omega)]
    by_cases hlow : (decodeL l).1 < 128
    · rw [enc_low _ hlow] at he
      have ht := u8_of (decodeL l).1 (by omega)
      rw [← he]
      generalize (decodeL l).1 = r at hlow ht ⊢
      by_cases h92 : r = 92
      · subst h92
        rfl
      · rw [if_neg h92]
        by_cases h34 : r = 34
        · subst h34
          rfl
        · have n34 : UInt8.ofNat r ≠ 34 := fun e => h34 (by rw [e] at ht; exact ht.symm)
          rw [if_neg (by rintro (h | ⟨_, h⟩) <;> omega)]
          simp [qe, n34]
    · rw [if_neg (by rintro (h | ⟨_, h⟩) <;> omega), if_neg (by omega), ← he, high_qe _ (enc_high _ (by omega))]
      simp
theorem runes_quote0 : ∀ (n : Nat) (l : List UInt8), l.length ≤ n → (runesW l true).flatten = (showW l).flatMap qe
  | 0, l, h => by
    rw [List.eq_nil_of_length_eq_zero (by omega : l.length = 0)]
    rfl
  | n + 1, l, h => by
    by_cases hl : l = []
    · subst hl
      rfl
    · have hd := drop_less l hl
      rw [showW_step l hl, List.flatMap_append, ← runes_quote0 n _ (by omega), ← sh_quote l hl]
      unfold runesW
      rw [pcsW_step l hl, ← List.flatten_append]
      rfl
theorem runes_quote (l : List UInt8) : (runesW l true).flatten = Lib.replaceAll (showW l) [34] [92, 34] := by
  rw [replaceAll_q]
  exact runes_quote0 _ l (Nat.le_refl _)

set_option maxRecDepth 100000 in
theorem refQuote_any (s : ByteArray) (w : World) (hs : s.size ≤ 16777216) :
    Calls Tryd.prog 12 #[.string s] w fun e w' => e = .returned (.string (str (quoteW s.data.toList))) ∧ Below w.heap.size w w' := by
  have hb2 : (runesW s.data.toList true).flatten.length ≤ 268435456 := by rw [runes_quote]; exact quote_room s hs
  have hb1 : (runesW s.data.toList true).length ≤ 268435456 := by
    have h1 := runesP_len (pcsW s.data.toList) true (pcs_ok _ s.data.toList (Nat.le_refl _))
    have h2 := pcs_len _ s.data.toList (Nat.le_refl _)
    have h3 : s.data.toList.length = s.size := rfl
    show (runesP (pcsW s.data.toList) true).length ≤ _
    omega
  have HQ : Hid (quoteW s.data.toList = 34 :: ((runesW s.data.toList true).flatten ++ [34])) := Lib.hid (by rw [runes_quote]; rfl)
  have HR := Lib.hid fun W => runes_any s true W hs
  generalize runesW s.data.toList true = T at *
  have HW := Lib.hid (wrap_q T.flatten)
  go_enter Tryd.func12, Tryd.ntmps12
  go_wp2_with fail
  refine (HR.out _).mono ?_
  rintro e w1 ⟨v, n, rfl, hn, ho, hb⟩
  obtain ⟨A, c, rfl, hsrc⟩ := own_src ho
  have B1 := Lib.hid hb
  have HS := Lib.hid hsrc
  have HN := Lib.hid hn
  clear hb ho hsrc hn
  go_wp2_with fail
  refine (joined_any A c n T _ HN.out (by have := HN.out; omega) (by omega) HS.out).mono ?_
  rintro e w2 ⟨rfl, b2⟩
  have B2 := Lib.hid (B1.out.trans (b2.mono B1.out.size))
  clear b2
  have hq : (str T.flatten).size ≤ 268435456 := by rw [str_size]; exact hb2
  generalize str T.flatten = q at hq HW ⊢
  go_wp2_with fail
  go_ret
  rw [HQ.out]
  exact ⟨ret_str HW.out, B2.out⟩
end Go.Proofs.YtaoekpedjgnnjaaDoor.Wd
