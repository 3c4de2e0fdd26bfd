/- slices.SortStableFunc: the list behind it is in order, of like ones those stand ahead that stood ahead. -/
import Derived.Test.YtjffemeeomogaaaDoorStT
namespace Go.Proofs.YtjffemeeomogaaaDoor.St
open Go.ChangeShapes Go.WideShapes Go.ChangeAt Go.RowKit Go.Sort Go.Shelf
variable {α : Type} [Inhabited α]

theorem sym_any (num : α → Int) (key : α → Int) (cf : α → α → Int) (g : Nat) (cb : Array Value) (blk off cap : Nat) (d0 : Array α) (w0 : World) (eg : ∀ args w, (callFunc g args).run Tryd.prog w = .ok (.enter g args) w) (hcmp : CmpLays1 Tryd.prog g cb (enc num) cf blk off d0.size w0) (hk : ∀ x y, cf x y < 0 ↔ key x < key y)
    (R : Row1 (enc num) w0 blk off d0) (hsz : d0.size < 4611686018427387904) : ∀ (N a m b : Nat) (d : Array α) (w : World), b - a ≤ N → d.size = d0.size → SW (enc num) w0 blk off d w → a < m → m < b → b ≤ d.size → Srt key (seg d a m) → Srt key (seg d m b) →
    Calls Tryd.prog 140 #[.slice (some ⟨blk, off, none⟩) d.size cap, .int .i64 (a : Int), .int .i64 (m : Int), .int .i64 (b : Int), .func (.func g) #[] cb] w fun e w' => e = .returned (.tuple #[]) ∧ ∃ d', (Ch key a b d d' ∧ Srt key (seg d' a b)) ∧ SW (enc num) w0 blk off d' w' := by
  intro N
  induction N with
  | zero => intro a m b d w hN _ _ h1 h2; omega
  | succ N ih =>
    intro a m b d w hN hs S h1 h2 hb hX hY
    by_cases c1 : m = a + 1
    · subst c1
      exact sym_left num key cf g cb blk off cap a b d0 d w0 w eg hcmp hk R hs S h2 hb hY (by omega)
    · by_cases c2 : b = m + 1
      · subst c2
        exact sym_right num key cf g cb blk off cap a m d0 d w0 w eg hcmp hk R hs S (by omega) hb hX (by omega)
      · exact sym_step num key cf g cb blk off cap a m b d0 d w0 w eg hcmp hk (fun a' m' b' d' w' hlt hs' S' x1 x2 x3 x4 x5 => ih a' m' b' d' w' (by omega) hs' S' x1 x2 x3 x4 x5) R hs S (by omega) (by omega) hb hX hY (by omega)

set_option maxRecDepth 100000 in
set_option maxHeartbeats 16000000 in
theorem stable_any (num : α → Int) (key : α → Int) (cf : α → α → Int) (g : Nat) (cb : Array Value) (blk off cap : Nat) (d : Array α) (w0 : World) (eg : ∀ args w, (callFunc g args).run Tryd.prog w = .ok (.enter g args) w) (hcmp : CmpLays1 Tryd.prog g cb (enc num) cf blk off d.size w0) (hk : ∀ x y, cf x y < 0 ↔ key x < key y)
    (R : Row1 (enc num) w0 blk off d) (hsz : d.size ≤ 1000000) :
    Calls Tryd.prog 119 #[.slice (some ⟨blk, off, none⟩) d.size cap, .int .i64 (d.size : Int), .func (.func g) #[] cb] w0 fun e w' => e = .returned (.tuple #[]) ∧ ∃ d', (Ch key 0 d.size d d' ∧ Srt key (seg d' 0 d.size)) ∧ SW (enc num) w0 blk off d' w' := by
  have HSY := Lib.hid (sym_any num key cf g cb blk off cap d w0 eg hcmp hk R (by omega))
  have HIN := Lib.hid (fun a b dk wr hs S h1 hb => insertion_any num key cf g cb blk off cap a b d dk w0 wr eg hcmp hk R hs S h1 hb (by omega))
  have S0 := Lib.hid (SW.start R.hH)
  clear hcmp hk
  obtain ⟨n, hn⟩ : ∃ n, n = d.size := ⟨_, rfl⟩
  rw [← hn] at hsz ⊢
  have HN := Lib.hid hn
  clear hn
  go_enter Tryd.func119, Tryd.ntmps119
  go_wp2_with fail
  go_loopg [7, 8] n (fun g1 v7 v8 wr => ∃ (aN bN : Nat) (dk : Array α), v7 = .int .i64 (aN : Int) ∧ v8 = .int .i64 (bN : Int) ∧ aN ≤ n ∧ bN = aN + 20 ∧ n - aN ≤ g1 ∧ Hid (∃ u, aN = u * 20 ∧ Blk key 20 n u dk) ∧ Hid (Ch key 0 n d dk) ∧ Hid (SW (enc num) w0 blk off dk wr))
  case atStart => exact ⟨0, 20, d, rfl, rfl, by omega, rfl, by omega, Lib.hid ⟨0, rfl, Blk.zero 20 n d⟩, Lib.hid (Ch.refl 0 n d), S0⟩
  case round =>
    clear S0
    obtain ⟨aN, bN, dk, rfl, rfl, han, hbN0, hg1, HU, HCH, S1⟩ := hrel
    have HBN := Lib.hid hbN0
    have hba : bN ≤ aN + 20 := by omega
    have hab : aN + 20 ≤ bN := by omega
    clear hbN0
    by_cases hlt : bN ≤ n
    · have hltz : (bN : Int) ≤ (n : Int) := by omega
      have HC := HIN.out aN bN dk wr HCH.out.1 S1.out (by omega) (by rw [HCH.out.1, ← HN.out]; exact hlt)
      rw [HCH.out.1, ← HN.out] at HC
      have HC' := Lib.hid HC
      clear HC
      go_wp2_with fail
      refine HC'.out.mono ?_
      rintro e w1 ⟨rfl, d', ⟨hd1, hd2⟩, hS⟩
      have S2 := Lib.hid hS
      have H3 := Lib.hid (HCH.out.trans (hd1.wide (Nat.zero_le _) hlt (by omega)))
      have H4 := Lib.hid (show ∃ u, bN = u * 20 ∧ Blk key 20 n u d' from by
        obtain ⟨u, hu1, hu2⟩ := HU.out
        refine ⟨u + 1, by omega, hu2.next hu1 hd1 ?_ hd2⟩
        rw [Nat.min_eq_left (by omega)]; exact HBN.out)
      clear hS hd1 hd2 HC' S1 HCH HU
      go_wp2_with fail
      go_roundg (n - bN)
      case measure => omega
      case rel => exact ⟨bN, bN + 20, d', rfl, by go_num, hlt, rfl, Nat.le_refl _, H4, H3, S2⟩
    · have hltz : ¬ (bN : Int) ≤ (n : Int) := by omega
      have HC := HIN.out aN n dk wr HCH.out.1 S1.out han (by rw [HCH.out.1, ← HN.out]; exact Nat.le_refl _)
      rw [HCH.out.1, ← HN.out] at HC
      have HC' := Lib.hid HC
      clear HC
      go_wp2_with fail
      refine HC'.out.mono ?_
      rintro e w1 ⟨rfl, d', ⟨hd1, hd2⟩, hS⟩
      have S2 := Lib.hid hS
      have H3 := Lib.hid (HCH.out.trans (hd1.wide (Nat.zero_le _) (Nat.le_refl _) han))
      have H4 := Lib.hid (show Bls key 20 n 0 d' from by
        obtain ⟨u, hu1, hu2⟩ := HU.out
        exact (hu2.next hu1 hd1 (by rw [Nat.min_eq_right (by omega)]) hd2).all (by rw [Nat.add_mul]; omega))
      clear hS hd1 hd2 HC' S1 HCH HU HBN hba hab han hlt hltz
      go_wp2_with fail
      go_loopg [6] (n + 1) (fun g2 v6 wr => ∃ (bs : Nat) (dk : Array α), v6 = .int .i64 (bs : Int) ∧ 0 < bs ∧ bs ≤ 2 * n + 20 ∧ n + 1 - bs ≤ g2 ∧ Hid (Bls key bs n 0 dk) ∧ Hid (Ch key 0 n d dk) ∧ Hid (SW (enc num) w0 blk off dk wr))
      case atStart => exact ⟨20, d', rfl, by omega, by omega, by omega, H4, H3, S2⟩
      case round =>
        clear S2 H3 H4
        obtain ⟨bs, dk, rfl, hbs, hbsn, hg2, HU, HCH, S1⟩ := hrel
        by_cases hlt : bs < n
        · have hltz : (bs : Int) < (n : Int) := by omega
          go_wp2_with fail
          go_loopg [7, 8] n (fun g3 v7 v8 wr => ∃ (aN bN : Nat) (dk : Array α), v7 = .int .i64 (aN : Int) ∧ v8 = .int .i64 (bN : Int) ∧ aN ≤ n ∧ bN = aN + 2 * bs ∧ n - aN ≤ g3 ∧ Hid (∃ u, aN = u * (2 * bs) ∧ Blk key (2 * bs) n u dk ∧ Bls key bs n (2 * u) dk) ∧ Hid (Ch key 0 n d dk) ∧ Hid (SW (enc num) w0 blk off dk wr))
          case atStart => exact ⟨0, 2 * bs, dk, rfl, by first | rfl | exact congrArg _ (by omega), by omega, by omega, by omega, Lib.hid ⟨0, by omega, Blk.zero _ n dk, HU.out⟩, HCH, S1⟩
          case round =>
            clear S1 HU HCH
            obtain ⟨aN, bN, dk, rfl, rfl, han, hbN0, hg3, HU, HCH, S1⟩ := hrel
            have HBN := Lib.hid hbN0
            have hba : bN ≤ aN + 2 * bs := by omega
            have hab : aN + 2 * bs ≤ bN := by omega
            clear hbN0
            by_cases hle : bN ≤ n
            · have hlez : (bN : Int) ≤ (n : Int) := by omega
              have HTW := Lib.hid (show Srt key (seg dk aN (aN + bs)) ∧ Srt key (seg dk (aN + bs) bN) from by
                obtain ⟨u, hu1, hu2, hu3⟩ := HU.out
                obtain ⟨t1, t2⟩ := hu3.two hu1
                have t1 := t1 (by omega)
                have t2 := t2 (by omega)
                rw [Nat.min_eq_left (by omega)] at t1 t2
                rw [HBN.out]
                exact ⟨t1, t2⟩)
              have HC := HSY.out (bN - aN) aN (aN + bs) bN dk wr (Nat.le_refl _) HCH.out.1 S1.out (by omega) (by omega) (by rw [HCH.out.1, ← HN.out]; exact hle) HTW.out.1 HTW.out.2
              rw [HCH.out.1, ← HN.out, show ((aN + bs : Nat) : Int) = (aN : Int) + (bs : Int) from rfl] at HC
              have HC' := Lib.hid HC
              clear HC
              go_wp2_with fail
              refine HC'.out.mono ?_
              rintro e w1 ⟨rfl, d', ⟨hd1, hd2⟩, hS⟩
              have S2 := Lib.hid hS
              have H3 := Lib.hid (HCH.out.trans (hd1.wide (Nat.zero_le _) hle (by omega)))
              have H4 := Lib.hid (show ∃ u, bN = u * (2 * bs) ∧ Blk key (2 * bs) n u d' ∧ Bls key bs n (2 * u) d' from by
                obtain ⟨u, hu1, hu2, hu3⟩ := HU.out
                refine ⟨u + 1, by rw [Nat.add_mul, ← hu1, Nat.one_mul]; exact HBN.out, hu2.next hu1 hd1 (by rw [Nat.min_eq_left (by omega)]; exact HBN.out) hd2, hu3.next hu1 ?_⟩
                rw [Nat.min_eq_left (by omega), ← HBN.out]; exact hd1)
              clear hS hd1 hd2 HC' S1 HCH HU HTW
              go_wp2_with fail
              go_roundg (n - bN)
              case measure => omega
              case rel => exact ⟨bN, bN + 2 * bs, d', rfl, by first | rfl | exact congrArg _ (by omega), hle, rfl, Nat.le_refl _, H4, H3, S2⟩
            · have hlez : ¬ (bN : Int) ≤ (n : Int) := by omega
              by_cases hm : aN + bs < n
              · have hmz : (aN : Int) + (bs : Int) < (n : Int) := by omega
                have HTW := Lib.hid (show Srt key (seg dk aN (aN + bs)) ∧ Srt key (seg dk (aN + bs) n) from by
                  obtain ⟨u, hu1, hu2, hu3⟩ := HU.out
                  obtain ⟨t1, t2⟩ := hu3.two hu1
                  have t1 := t1 (by omega)
                  have t2 := t2 (by omega)
                  rw [Nat.min_eq_left (by omega)] at t1
                  rw [Nat.min_eq_right (by omega)] at t2
                  exact ⟨t1, t2⟩)
                have HC := HSY.out (n - aN) aN (aN + bs) n dk wr (Nat.le_refl _) HCH.out.1 S1.out (by omega) (by omega) (by rw [HCH.out.1, ← HN.out]; exact Nat.le_refl _) HTW.out.1 HTW.out.2
                rw [HCH.out.1, ← HN.out, show ((aN + bs : Nat) : Int) = (aN : Int) + (bs : Int) from rfl] at HC
                have HC' := Lib.hid HC
                clear HC
                go_wp2_with fail
                refine HC'.out.mono ?_
                rintro e w1 ⟨rfl, d', ⟨hd1, hd2⟩, hS⟩
                have S2 := Lib.hid hS
                have H3 := Lib.hid (HCH.out.trans (hd1.wide (Nat.zero_le _) (Nat.le_refl _) (by omega)))
                have H4 := Lib.hid (show Bls key (2 * bs) n 0 d' from by
                  obtain ⟨u, hu1, hu2, hu3⟩ := HU.out
                  exact (hu2.next hu1 hd1 (by rw [Nat.min_eq_right (by omega)]) hd2).all (by rw [Nat.add_mul, ← hu1, Nat.one_mul]; omega))
                clear hS hd1 hd2 HC' S1 HCH HU HTW
                go_wp2_with fail
                go_roundg (n + 1 - 2 * bs)
                case measure => omega
                case rel => exact ⟨2 * bs, d', by first | rfl | exact congrArg _ (by omega), by omega, by omega, Nat.le_refl _, H4, H3, S2⟩
              · have hmz : ¬ (aN : Int) + (bs : Int) < (n : Int) := by omega
                have H4 := Lib.hid (show Bls key (2 * bs) n 0 dk from by
                  obtain ⟨u, hu1, hu2, hu3⟩ := HU.out
                  obtain ⟨t1, _⟩ := hu3.two hu1
                  by_cases han2 : aN < n
                  · have t1 := t1 han2
                    rw [Nat.min_eq_right (by omega)] at t1
                    exact (hu2.next hu1 (Ch.refl (key := key) aN n dk) (by rw [Nat.min_eq_right (by omega)]) t1).all (by rw [Nat.add_mul, ← hu1, Nat.one_mul]; omega)
                  · exact hu2.all (by omega))
                clear HU
                go_wp2_with fail
                go_roundg (n + 1 - 2 * bs)
                case measure => omega
                case rel => exact ⟨2 * bs, dk, by first | rfl | exact congrArg _ (by omega), by omega, by omega, Nat.le_refl _, H4, HCH, S1⟩
        · have hltz : ¬ (bs : Int) < (n : Int) := by omega
          go_wp2_with fail
          go_end0
          exact ⟨rfl, dk, ⟨HCH.out, HU.out.done (by omega)⟩, S1.out⟩
end Go.Proofs.YtjffemeeomogaaaDoor.St
