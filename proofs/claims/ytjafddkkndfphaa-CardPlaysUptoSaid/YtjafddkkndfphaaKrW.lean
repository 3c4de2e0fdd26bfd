/- Does a registry work at all? -/
import Derived.Test.YtjafddkkndfphaaKrG
import Derived.Test.YtjafddkkndfphaaKcC
import Derived.Test.YtjafddkkndfphaaKaA
namespace Go.Proofs.Ytjafddkkndfphaa.Kr
open Go.ChangeShapes Go.WideShapes Go.ChangeAt Go.RowKit Own Ro wordsNames Kc

def uartN : List UInt8 := [117, 97, 114, 116]
def nextN : List UInt8 := [110, 101, 120, 116]
theorem name_uart : isName uartN = true := by decide +kernel
theorem name_bus : isName busN = true := by decide +kernel
theorem name_next : isName nextN = true := by decide +kernel
theorem smp_ok {s : List UInt8} (h : isName s = true) : CardOk (smp s) :=
  ⟨h, name_bus, by show (1 : Int) ≤ 4; decide, ⟨by show 1 ≤ 1; decide, by show 1 ≤ 8; decide, fun i hi => by
    obtain rfl : i = 0 := by have : i < 1 := hi; omega
    exact ⟨⟨by show 1 ≤ 1; decide, by show 1 ≤ 63; decide, by show (0 : UInt8) ∉ [97]; decide⟩, fun k hk => absurd hk (by omega)⟩⟩, ⟨by show (-100 : Int) ≤ 5; decide, by show (5 : Int) ≤ 100; decide⟩, .inl rfl, by show (-1 : Int) ≤ -1; decide, by show (-1 : Int) ≤ 47; decide⟩
theorem mild_ok {M : Nat} {s : List UInt8} (h : s.length ≤ 31) (hM : 63 ≤ M) : MildC M (smp s) :=
  ⟨by show s.length ≤ M; omega, by show 3 ≤ M; omega, by show 0 ≤ M; omega, by show 1 ≤ M; omega, fun k => by
    by_cases h0 : k = 0
    · rw [h0]; show 1 ≤ M; omega
    · show (([[97]] : List (List UInt8)).getD k []).length ≤ M
      rw [List.getD_eq_getElem?_getD, List.getElem?_eq_none (by simp; omega)]
      exact Nat.zero_le _⟩
theorem enter_ok {C F : Cs} {d : Cd} {B : Nat} {C' F' : Cs} {er : Int} (h : EnterRel C F false d B C' F' er) (hd : CardOk d) (hn : ¬ Dup C d.name) (hl : C.length < 64) : er = 0 ∧ F' = F ∧ ∃ r, C' = C ++ [(d, r)] ∧ ∀ a, r.1 = some a → B ≤ a.block := by
  rcases h with ⟨h, _⟩ | ⟨_, h, _⟩ | ⟨_, _, h, _⟩ | ⟨_, _, h, _⟩ | ⟨_, _, _, h, _⟩ | ⟨_, _, _, _, h1, h2, h3⟩
  · cases h
  · exact absurd hd h
  · exact absurd h hn
  · exact absurd h hn
  · omega
  · exact ⟨h1, h2, h3⟩
theorem enter_dup {C F : Cs} {d : Cd} {B : Nat} {C' F' : Cs} {er : Int} (h : EnterRel C F false d B C' F' er) (hd : CardOk d) (hn : Dup C d.name) (hl : F.length < 64) : er = 71 ∧ C' = C ∧ ∃ r, F' = F ++ [(d, r)] ∧ ∀ a, r.1 = some a → B ≤ a.block := by
  rcases h with ⟨h, _⟩ | ⟨_, h, _⟩ | ⟨_, _, _, h, _⟩ | ⟨_, _, _, _, h1, h2, h3⟩ | ⟨_, _, h, _⟩ | ⟨_, _, h, _⟩
  · cases h
  · exact absurd hd h
  · omega
  · exact ⟨h1, h2, h3⟩
  · exact absurd hn h
  · exact absurd hn h
theorem enter_done {C F : Cs} {d : Cd} {B : Nat} {C' F' : Cs} {er : Int} (h : EnterRel C F true d B C' F' er) : er = 5 ∧ C' = C ∧ F' = F := by
  rcases h with ⟨_, h1, h2, h3⟩ | ⟨h, _⟩ | ⟨h, _⟩ | ⟨h, _⟩ | ⟨h, _⟩ | ⟨h, _⟩
  · exact ⟨h1, h2, h3⟩
  all_goals cases h
theorem mark_ok {C : Cs} {N : List Nt} {a : Nt} {N' : List Nt} {er : Int} (h : MarkRel C N false a N' er) (ha : isName a.pack = true ∧ 0 ≤ a.init ∧ a.init ≤ 8) (hl : N.length < 256) : er = 0 ∧ N' = N ++ [{ a with stood := (C.length : Int) }] := by
  rcases h with ⟨h, _⟩ | ⟨_, h, _⟩ | ⟨_, _, h, _⟩ | ⟨_, _, _, h1, h2⟩
  · cases h
  · exact absurd ha h
  · omega
  · exact ⟨h1, h2⟩
/-- A list of structs that was just written out. -/
theorem lit_rows {α : Type} {K : Kd α} (w : World) (L : List α) (R : List Sl) (arr : Array Value) (T : TypeId) (ha : arr.toList = K.rows L R) (hl : R.length = L.length)
    (hin : ∀ i, i < L.length → (R.getD i sl0).2.1 = K.len (L.getD i K.z) ∧ CellsIn w K.q (R.getD i sl0).1 (R.getD i sl0).2.1 (K.inn (L.getD i K.z))) : Ro.RowsIn K (w.alloc (.cells arr T)) (some ⟨w.heap.size, 0, none⟩) L.length L R := by
  refine ⟨rfl, hl, ⟨rows_len K L R hl.symm, .inr ⟨w.heap.size, 0, rfl, by simp, fun j u hu => ?_⟩⟩, fun i hi => ⟨(hin i hi).1, (hin i hi).2.below (grows' w _)⟩⟩
  rw [Lib.cell_of_heap (heap_alloc_new w _), Nat.zero_add]
  rw [← ha] at hu
  simpa using hu
theorem two_uart {A B : Option Addr} {m n c e : Nat} : KC.rows [smp uartN, smp uartN] [(A, m, c), (B, n, e)] = (cells7 (smp uartN) (A, m, c)).toList ++ (cells7 (smp uartN) (B, n, e)).toList := rfl
theorem chk_two : ChkC [smp uartN, smp uartN] 1 70 := .inl ⟨by decide, fun h => h.2.2 0 (by omega) rfl, fun k hk => by
  obtain rfl : k = 0 := by omega
  exact ⟨by decide, smp_ok name_uart, fun k hk => absurd hk (by omega)⟩, rfl⟩
theorem own_neat {w : World} {base : Nat} {e : TypeId} {k n c : Nat} {A : Option Addr} {xs : List Value} (h : w.ownsRow base e k (.slice A n c) n xs) : Neat (A, n, c) ∧ n ≤ c := by
  obtain ⟨A', c', hv, h1, h2⟩ := own_srcK h
  injection hv with e1 _ e3
  subst e1 e3
  exact ⟨h1, h2⟩
theorem bgb {w a b : World} {g : Nat} (h : Below w.heap.size w a) (hg : a.grownBy b (some g)) (hgw : w.heap.size ≤ g) : Below w.heap.size w b := h.grown hg h.size (fun k hk => by injection hk with hk; omega)
/-- A sample is entered. -/
theorem enter_smp (s : List UInt8) (g : Nat) (C F : Cs) (N : List Nt) (z : Bool) (A : Option Addr) (c n base : Nat) (w : World) (hs : s.length ≤ 31) (h : RegAt w g C F N z) (hn : n = (smp s).compat.length) (ho : w.ownsRow base 9 1 (.slice A n c) n (strs (smp s).compat)) :
    Calls Try.prog 12 #[.pointer (some ⟨g, 0, none⟩), cardV (smp s) (A, n, c)] w (EnterPost g C F N z (smp s) w) :=
  enter_any g C F N z (smp s) (A, n, c) w h (mild_ok hs (by omega)) hn (own_neat ho).1 (own_neat ho).2 (own_cells ho)
theorem ent_26 : Ka.entV 3 10 2 [(5, [1, 2])] = 26 := by decide +kernel
theorem ent_mem (w : World) : Ro.RowsIn Ka.KP ((w.alloc (.cells #[.int .i64 1, .int .i64 2] 2)).alloc (.cells #[.int .i64 5, .slice (some ⟨w.heap.size, 0, none⟩) 2 2] 56)) (some ⟨w.heap.size + 1, 0, none⟩) 1 [(5, [1, 2])] [(some ⟨w.heap.size, 0, none⟩, 2, 2)] := by
  have h := lit_rows (K := Ka.KP) (w.alloc (.cells #[.int .i64 1, .int .i64 2] 2)) [(5, [1, 2])] [(some ⟨w.heap.size, 0, none⟩, 2, 2)] #[.int .i64 5, .slice (some ⟨w.heap.size, 0, none⟩) 2 2] 56 rfl rfl (fun i hi => by
    obtain rfl : i = 0 := by have : i < 1 := hi; omega
    exact ⟨rfl, rfl, .inr ⟨w.heap.size, 0, rfl, by simp, fun j u hu => by
      rw [Lib.cell_of_heap (heap_alloc_new w _), Nat.zero_add]
      have hu' : [Value.int .i64 1, .int .i64 2][j]? = some u := hu
      simpa using hu'⟩⟩)
  have e2 : (w.alloc (.cells #[.int .i64 1, .int .i64 2] 2)).heap.size = w.heap.size + 1 := by simp
  rw [e2] at h
  exact h
set_option maxRecDepth 100000 in
set_option maxHeartbeats 16000000 in
theorem works_any (w : World) : Calls Try.prog 10 #[] w fun e w' => e = .returned (.bool true) ∧ Below w.heap.size w w' := by
  have HN := Lib.hid new_any
  have HS := Lib.hid sample_any
  have HSU : Hid (∀ W, Calls Try.prog 11 #[.string ⟨#[117, 97, 114, 116]⟩] W (MadeC (smp uartN) W)) := Lib.hid (HS.out uartN)
  have HSX : Hid (∀ W, Calls Try.prog 11 #[.string ⟨#[110, 101, 120, 116]⟩] W (MadeC (smp nextN) W)) := Lib.hid (HS.out nextN)
  clear HS
  go_enter Try.func10, Try.ntmps10
  go_wp2_with fail
  refine (HN.out _).mono ?_
  rintro e w1 ⟨rfl, hw1⟩
  have HR1 : Hid (RegAt w1 w.heap.size [] [] [] false) := Lib.hid (by rw [hw1]; exact new_reg w)
  have B1 : Hid (Below w.heap.size w w1) := Lib.hid (by rw [hw1]; exact grows' w _)
  clear hw1
  go_wp2_with fail
  refine (HSU.out _).mono ?_
  rintro e w2 ⟨A2, c2, n2, rfl, hn2, ho2, b2⟩
  have HE2 := Lib.hid (enter_smp uartN w.heap.size [] [] [] false A2 c2 n2 _ w2 (by decide) (HR1.out.below b2) hn2 ho2)
  have B2 := Lib.hid (bt B1.out b2)
  clear hn2 ho2 b2 HR1 B1
  go_wp2_with fail
  refine HE2.out.mono ?_
  rintro e w3 ⟨C3, F3, er3, rfl, hr3, hg3, he3⟩
  obtain ⟨rfl, rfl, r3, rfl, _⟩ := enter_ok he3 (smp_ok name_uart) (fun ⟨i, hi, _⟩ => absurd hi (by simp)) (by decide)
  have HR3 := Lib.hid hr3
  have B3 := Lib.hid (bgb B2.out hg3 (Nat.le_refl _))
  clear hr3 hg3 he3 HE2 B2
  go_wp2_with fail
  refine (HSU.out _).mono ?_
  rintro e w4 ⟨A4, c4, n4, rfl, hn4, ho4, b4⟩
  have HE4 := Lib.hid (enter_smp uartN w.heap.size _ _ _ false A4 c4 n4 _ w4 (by decide) (HR3.out.below b4) hn4 ho4)
  have B4 := Lib.hid (bt B3.out b4)
  clear hn4 ho4 b4 HR3 B3
  go_wp2_with fail
  refine HE4.out.mono ?_
  rintro e w5 ⟨C5, F5, er5, rfl, hr5, hg5, he5⟩
  obtain ⟨rfl, rfl, r5, rfl, _⟩ := enter_dup he5 (smp_ok name_uart) ⟨0, by simp, rfl⟩ (by decide)
  have HR5 := Lib.hid hr5
  have B5 := Lib.hid (bgb B4.out hg5 (Nat.le_refl _))
  clear hr5 hg5 he5 HE4 B4
  have HM5 : Hid (Calls Try.prog 13 #[.pointer (some ⟨w.heap.size, 0, none⟩), .string ⟨#[98, 117, 115]⟩, .int .i64 1, .int .i64 7] w5 (MarkPost w.heap.size ([] ++ [(smp uartN, r3)]) ([] ++ [(smp uartN, r5)]) [] false ⟨busN, 1, 7, 0⟩ w5)) := Lib.hid (mark_any w.heap.size _ _ _ false busN 1 7 w5 HR5.out (by decide))
  go_wp2_with fail
  refine HM5.out.mono ?_
  rintro e w6 ⟨N6, er6, rfl, hr6, hg6, hm6⟩
  obtain ⟨rfl, rfl⟩ := mark_ok hm6 ⟨name_bus, by show (0 : Int) ≤ 1; decide, by show (1 : Int) ≤ 8; decide⟩ (by decide)
  have HR6 := Lib.hid hr6
  have B6 := Lib.hid (bgb B5.out hg6 (Nat.le_refl _))
  have HF6 := Lib.hid (freeze_any w.heap.size _ _ _ false w6 hr6)
  clear hr6 hg6 hm6 HM5 B5 HR5
  go_wp2_with fail
  refine HF6.out.mono ?_
  rintro e w7 ⟨rfl, hr7, hg7⟩
  simp only [openE]
  have HR7 := Lib.hid hr7
  have B7 := Lib.hid (bgb B6.out hg7 (Nat.le_refl _))
  clear hr7 hg7 HF6 HR6 B6
  go_wp2_with fail
  refine (HSX.out _).mono ?_
  rintro e w8 ⟨A8, c8, n8, rfl, hn8, ho8, b8⟩
  have HE8 := Lib.hid (enter_smp nextN w.heap.size _ _ _ true A8 c8 n8 _ w8 (by decide) (HR7.out.below b8) hn8 ho8)
  have B8 := Lib.hid (bt B7.out b8)
  clear hn8 ho8 b8 HR7 B7
  go_wp2_with fail
  refine HE8.out.mono ?_
  rintro e w9 ⟨C9, F9, er9, rfl, hr9, hg9, he9⟩
  obtain ⟨rfl, rfl, rfl⟩ := enter_done he9
  have HR9 := Lib.hid hr9
  have B9 := Lib.hid (bgb B8.out hg9 (Nat.le_refl _))
  clear hr9 hg9 he9 HE8 B8
  have HNN := Lib.hid (notes_any _ _ _ _ _ _ HR9.out)
  go_wp2_with fail
  refine HNN.out.mono ?_
  rintro e w10 ⟨A10, c10, n10, rfl, hn10, ho10, b10⟩
  obtain rfl : n10 = 1 := hn10
  have HO10 := Lib.hid ho10
  have HR10 := Lib.hid (HR9.out.below b10)
  have B10 := Lib.hid (bt B9.out b10)
  clear ho10 b10 HNN HR9 B9
  have HCC := Lib.hid (cards_any _ _ _ _ _ _ HR10.out)
  go_wp2_with fail
  refine HCC.out.mono ?_
  rintro e w11 ⟨A11, c11, n11, R11, rfl, hr11, b11⟩
  obtain rfl : n11 = 1 := hr11.1
  have HO11 := Lib.hid (own_belowK HO10.out b11)
  have HR11 := Lib.hid (HR10.out.below b11)
  have B11 := Lib.hid (bt B10.out b11)
  clear hr11 b11 HCC HR10 B10 HO10
  go_wp2_with fail
  refine (HSU.out _).mono ?_
  rintro e w12 ⟨A12, c12, n12, rfl, hn12, ho12, b12⟩
  obtain rfl : n12 = 1 := hn12
  have HX12 := Lib.hid ho12
  have HO12 := Lib.hid (own_belowK HO11.out b12)
  have HR12 := Lib.hid (HR11.out.below b12)
  have B12 := Lib.hid (bt B11.out b12)
  clear ho12 b12 HR11 B11 HO11
  go_wp2_with fail
  refine (HSU.out _).mono ?_
  rintro e w13 ⟨A13, c13, n13, rfl, hn13, ho13, b13⟩
  obtain rfl : n13 = 1 := hn13
  have HO13 := Lib.hid (own_belowK HO12.out b13)
  have HR13 := Lib.hid (HR12.out.below b13)
  have B13 := Lib.hid (bt B12.out b13)
  have HX13 := Lib.hid (own_cells (own_belowK HX12.out b13))
  have HY13 := Lib.hid (own_cells ho13)
  have HNT := Lib.hid (own_neat (own_belowK HX12.out b13)).2
  have HNT2 := Lib.hid (own_neat ho13).2
  clear ho13 b13 HR12 B12 HO12 HX12
  have HL := Lib.hid (lit_rows (K := KC) w13 [smp uartN, smp uartN] [(A12, 1, c12), (A13, 1, c13)] #[.string (str uartN), .string (str busN), .int .u8 1, .slice A12 1 c12, .int .i8 5, .string (str []), .int .i16 (-1), .string (str uartN), .string (str busN), .int .u8 1, .slice A13 1 c13, .int .i8 5, .string (str []), .int .i16 (-1)] 30 rfl rfl (fun i hi => by
    have : i = 0 ∨ i = 1 := by have : i < 2 := hi; omega
    rcases this with rfl | rfl
    · exact ⟨rfl, HX13.out⟩
    · exact ⟨rfl, HY13.out⟩))
  have HCK := Lib.hid (check_any (some ⟨w13.heap.size, 0, none⟩) 2 2 [smp uartN, smp uartN] [(A12, 1, c12), (A13, 1, c13)] 1 70 _ chk_two ⟨by decide, fun k => by
    by_cases h0 : k = 0
    · rw [h0]; exact mild_ok (by decide) (by omega)
    by_cases h1 : k = 1
    · rw [h1]; exact mild_ok (by decide) (by omega)
    · rw [List.getD_eq_getElem?_getD, List.getElem?_eq_none (by simp; omega)]
      exact ⟨Nat.zero_le _, Nat.zero_le _, Nat.zero_le _, Nat.zero_le _, fun k => by simp [cd0]⟩⟩ (fun k => by
    by_cases h0 : k = 0
    · rw [h0]; exact HNT.out
    by_cases h1 : k = 1
    · rw [h1]; exact HNT2.out
    · rw [List.getD_eq_getElem?_getD, List.getElem?_eq_none (by simp; omega)]
      exact Nat.le_refl _) HL.out)
  simp only [cardV, cells7, slV, smp] at HL HCK ⊢
  generalize str uartN = SU at HL HCK ⊢
  generalize str busN = SB at HL HCK ⊢
  generalize str [] = SE at HL HCK ⊢
  go_wp2_with fail
  refine HCK.out.mono ?_
  rintro e w14 ⟨rfl, b14⟩
  have G14 := Lib.hid (bt (grows' w13 _) b14)
  have HR14 := Lib.hid (HR13.out.below G14.out)
  have B14 := Lib.hid (bt B13.out G14.out)
  have HO14 := Lib.hid (own_belowK HO13.out G14.out)
  clear b14 HCK HL HX13 HY13 HNT HNT2 HR13 B13 HO13 G14
  have HRF := Lib.hid (refused_any _ _ _ _ _ _ HR14.out)
  go_wp2_with fail
  refine HRF.out.mono ?_
  rintro e w15 ⟨A15, c15, n15, R15, rfl, hr15, b15⟩
  obtain rfl : n15 = 1 := hr15.1
  have B15 := Lib.hid (bt B14.out b15)
  obtain ⟨gn, on, rfl, hgn, hcn⟩ := (own_cells (own_belowK HO14.out b15)).at (by omega)
  have cn := hcn 3 (.int .i64 1) rfl
  have HCN := Lib.hid cn
  have HP := Lib.hid fun (w : World) => Ka.entry_any (some ⟨w.heap.size + 1, 0, none⟩) 1 1 3 10 2 [(5, [1, 2])] [(some ⟨w.heap.size, 0, none⟩, 2, 2)] ((w.alloc (.cells #[.int .i64 1, .int .i64 2] 2)).alloc (.cells #[.int .i64 5, .slice (some ⟨w.heap.size, 0, none⟩) 2 2] 56)) (by omega) (by omega) (fun k => by
    by_cases h0 : k = 0
    · rw [h0]; decide
    · rw [List.getD_eq_getElem?_getD, List.getElem?_eq_none (by simp; omega)]
      exact Nat.zero_le _) (ent_mem w)
  simp only [ent_26] at HP
  clear hr15 b15 HRF HR14 B14 HO14 hcn
  go_wp2_with fail
  refine (HP.out _).mono ?_
  rintro e w16 ⟨rfl, b16⟩
  have B16 := Lib.hid (bt (bal (bal B15.out rfl _) rfl _) b16)
  clear b16 HP cn HCN B15
  go_wp2_with fail
  go_ret
  exact ⟨rfl, B16.out⟩
end Go.Proofs.Ytjafddkkndfphaa.Kr
