/- The law CardNames. -/
import Derived.Test.YtcbjmmehnfakkaaKlA
import Derived.Test.YtcbjmmehnfakkaaKcU
import Derived.Test.YtcbjmmehnfakkaaAp
import Derived.Lib.SlBytesRow
namespace Go.Proofs.Ytcbjmmehnfakkaa.Kn
open Go.ChangeShapes Go.WideShapes Go.ChangeAt Go.RowKit Own Ro wordsNames Kc Kr

def nm (k : Nat) : List UInt8 := [107, 97 + UInt8.ofNat (k / 26), 97 + UInt8.ofNat (k % 26)]
theorem nm_inj {a b : Nat} (ha : a < 66) (hb : b < 66) (h : nm a = nm b) : a = b := by
  unfold nm at h
  injection h with _ h
  injection h with h1 h
  injection h with h2 _
  have e1 := congrArg UInt8.toNat h1
  have e2 := congrArg UInt8.toNat h2
  simp at e1 e2
  omega
theorem nm_ok (k : Nat) (h : k < 66) : isName (nm k) = true := by
  have : ∀ k : Fin 66, isName (nm k.1) = true := by decide +kernel
  exact this ⟨k, h⟩
def sms (k : Nat) : List Cd := (List.range k).map fun i => smp (nm i)
theorem sms_len (k : Nat) : (sms k).length = k := by simp [sms]
theorem sms_S (k : Nat) : sms (k + 1) = sms k ++ [smp (nm k)] := by unfold sms; rw [List.range_succ, List.map_append]; rfl
theorem sms_at (k i : Nat) (h : i < k) : (sms k).getD i cd0 = smp (nm i) := by
  unfold sms
  rw [List.getD_eq_getElem?_getD, List.getElem?_map, List.getElem?_range h]
  rfl
theorem plain_at (C : Cs) (i : Nat) (h : i < C.length) : (plain C).getD i cd0 = (C.getD i zc).1 := map_fst_at C i h
theorem no_dup {C : Cs} {m k : Nat} (h : plain C = sms m) (hm : m ≤ k) (hk : k < 66) : ¬ Dup C (nm k) := by
  rintro ⟨i, hi, he⟩
  have hl : C.length = m := by rw [← sms_len m, ← h]; simp [plain]
  rw [← plain_at C i hi, h, sms_at m i (by omega)] at he
  have := nm_inj (by omega) hk (show nm i = nm k from he)
  omega
theorem is_dup {C : Cs} {m k : Nat} (h : plain C = sms m) (hk : k < m) : Dup C (nm k) := by
  have hl : C.length = m := by rw [← sms_len m, ← h]; simp [plain]
  exact ⟨k, by omega, by rw [← plain_at C k (by omega), h, sms_at m k hk]; rfl⟩
theorem enter_full {C F : Cs} {d : Cd} {B : Nat} {C' F' : Cs} {er : Int} (h : EnterRel C F false d B C' F' er) (hd : CardOk d) (hn : ¬ Dup C d.name) (hl : C.length = 64) : er = 3 ∧ C' = C ∧ F' = F := by
  rcases h with ⟨h, _⟩ | ⟨_, h, _⟩ | ⟨_, _, h, _⟩ | ⟨_, _, h, _⟩ | ⟨_, _, _, _, h1, h2, h3⟩ | ⟨_, _, _, h, _⟩
  · cases h
  · exact absurd hd h
  · exact absurd h hn
  · exact absurd h hn
  · exact ⟨h1, h2, h3⟩
  · omega
theorem enter_fullF {C F : Cs} {d : Cd} {B : Nat} {C' F' : Cs} {er : Int} (h : EnterRel C F false d B C' F' er) (hd : CardOk d) (hn : Dup C d.name) (hl : F.length = 64) : er = 3 ∧ C' = C ∧ F' = F := by
  rcases h with ⟨h, _⟩ | ⟨_, h, _⟩ | ⟨_, _, _, _, h1, h2, h3⟩ | ⟨_, _, _, h, _⟩ | ⟨_, _, h, _⟩ | ⟨_, _, h, _⟩
  · cases h
  · exact absurd hd h
  · exact ⟨h1, h2, h3⟩
  · omega
  · exact absurd hn h
  · exact absurd hn h
/-- The texts of a shelf lie apart from the block at A. -/
def ApA (C : Cs) (A : Option Addr) : Prop := ∀ i a b, i < C.length → A = some b → (C.getD i zc).2.1 = some a → a.block ≠ b.block
theorem ApA.grow {C : Cs} {A A' : Option Addr} {n c n' c' N : Nat} (h : ApA C A) (hl : ∀ i a, i < C.length → (C.getD i zc).2.1 = some a → a.block < N) (hv : (Value.slice A' n' c').ownBlock = (Value.slice A n c).ownBlock ∨ ∀ g, (Value.slice A' n' c').ownBlock = some g → N ≤ g) : ApA C A' := fun i a b hi hA ha => by
  rcases hv with hv | hv
  · rw [hA] at hv
    cases A with
    | none => cases hv
    | some a0 =>
      injection hv with hv
      rw [hv]
      exact h i a a0 hi rfl ha
  · have h1 := hv b.block (by rw [hA]; rfl)
    have h2 := hl i a hi ha
    omega
theorem news7 (w : World) (xs : Array Value) (t : TypeId) {g : Nat} (hg : g = w.heap.size) : ∀ j u, xs.toList[j]? = some u → (w.alloc (.cells xs t)).cell? ((⟨g, 0, none⟩ : Addr).add j) = some u := fun j u hu => by
  subst hg
  rw [Ro.add_plain, Lib.cell_of_heap (heap_alloc_new w _), Nat.zero_add]
  simpa using hu
theorem box_kept {y w5 : World} {o : Obj} {row : Option Nat} (hg : (y.alloc o).grownBy w5 row) {b j : Nat} {u : Value} (hne : some b ≠ row) (h : y.cell? ⟨b, j, none⟩ = some u) : w5.cell? ⟨b, j, none⟩ = some u := by
  have hb : b < y.heap.size := cell_lt h
  rw [World.cell?_of_block (hg.block b (by simp; omega) hne), (grows' y o).cell (p := ⟨b, j, none⟩) hb]
  exact h
theorem _root_.Go.Proofs.Ytcbjmmehnfakkaa.Kr.RegAt.keptR {W W' : World} {g : Nat} {C F : Cs} {N : List Nt} {z : Bool} {row : Option Nat} (h : RegAt W g C F N z) (hg : W.grownBy W' row) (hne : some g ≠ row) (hc : ∀ i, i < C.length → ∀ a, (C.getD i zc).2.1 = some a → some a.block ≠ row) (hf : ∀ i, i < F.length → ∀ a, (F.getD i zc).2.1 = some a → some a.block ≠ row) : RegAt W' g C F N z :=
  ⟨h.blk.kept hg hne, h.c64, h.f64, h.n256,
    fun i hi => ⟨(h.ct i hi).1, (h.ct i hi).2.1.kept hg (hc i hi), (h.ct i hi).2.2.1, (h.ct i hi).2.2.2.1, (h.ct i hi).2.2.2.2⟩,
    fun i hi => ⟨(h.ft i hi).1, (h.ft i hi).2.1.kept hg (hf i hi), (h.ft i hi).2.2.1, (h.ft i hi).2.2.2.1, (h.ft i hi).2.2.2.2⟩, h.cm, h.fm⟩
theorem tx_lt {W : World} {g : Nat} {C : Cs} (h : TxAll W g C) : ∀ i a, i < C.length → (C.getD i zc).2.1 = some a → (C.getD i zc).2.2.1 ≠ 0 → a.block < W.heap.size := fun i a hi ha hn => by
  rcases (h i hi).2.1.2 with h0 | ⟨b, o, hA, hb, _⟩
  · exact absurd h0 hn
  · rw [ha] at hA
    injection hA with hA
    rw [hA]
    exact hb
theorem pl_len {C : Cs} {m : Nat} (h : plain C = sms m) : C.length = m := by rw [← sms_len m, ← h]; simp [plain]
theorem enter_step {C F' C' : Cs} {k B : Nat} {er : Int} (h : EnterRel C [] false (smp (nm k)) B C' F' er) (hp : plain C = sms (min k 64)) (hk : k < 66) :
    ((k < 64 ∧ er = 0) ∨ (¬ k < 64 ∧ er = 3)) ∧ F' = [] ∧ plain C' = sms (min (k + 1) 64) ∧ (C' = C ∨ ∃ r, C' = C ++ [(smp (nm k), r)] ∧ ∀ a, r.1 = some a → B ≤ a.block) := by
  have hl := pl_len hp
  by_cases h64 : k < 64
  · rw [show min k 64 = k by omega] at hp hl
    obtain ⟨h1, h2, r, h3, h4⟩ := enter_ok h (smp_ok (nm_ok k hk)) (no_dup hp (Nat.le_refl _) hk) (by omega)
    refine ⟨.inl ⟨h64, h1⟩, h2, ?_, .inr ⟨r, h3, h4⟩⟩
    rw [show min (k + 1) 64 = k + 1 by omega, sms_S, h3, ← hp]
    simp [plain]
  · rw [show min k 64 = 64 by omega] at hp hl
    obtain ⟨h1, h2, h3⟩ := enter_full h (smp_ok (nm_ok k hk)) (no_dup hp (by omega) hk) hl
    exact ⟨.inr ⟨h64, h1⟩, h3, by rw [show min (k + 1) 64 = 64 by omega, h2]; exact hp, .inl h2⟩
theorem ApA.enter {C C' : Cs} {A : Option Addr} {B : Nat} {d : Cd} (h : ApA C A) (hA : ∀ b, A = some b → b.block < B) (hC : C' = C ∨ ∃ r, C' = C ++ [(d, r)] ∧ ∀ a, r.1 = some a → B ≤ a.block) : ApA C' A := by
  rcases hC with rfl | ⟨r, rfl, hr⟩
  · exact h
  · intro i a b hi hb ha
    rw [List.length_append, List.length_singleton] at hi
    by_cases h1 : i < C.length
    · rw [getD_sn C _ zc i h1] at ha
      exact h i a b h1 hb ha
    · obtain rfl : i = C.length := by omega
      rw [getD_la] at ha
      have h2 := hr a ha
      have h3 := hA b hb
      omega
theorem tx_one {W : World} {g : Nat} {C : Cs} {m : Nat} (h : TxAll W g C) (hp : plain C = sms m) : ∀ i a, i < C.length → (C.getD i zc).2.1 = some a → a.block < W.heap.size := fun i a hi ha => by
  refine tx_lt h i a hi ha ?_
  rw [(h i hi).1, ← plain_at C i hi, hp, sms_at m i (by rw [← pl_len hp]; exact hi)]
  exact Nat.one_ne_zero
theorem ap_row {C : Cs} {A : Option Addr} {n c : Nat} (h : ApA C A) : ∀ i, i < C.length → ∀ a, (C.getD i zc).2.1 = some a → some a.block ≠ (Value.slice A n c).ownBlock := fun i hi a ha e => by
  cases A with
  | none => cases e
  | some b =>
    injection e with e
    exact h i a b hi rfl ha e
theorem last_own {W : World} {base n c : Nat} {A : Option Addr} {L : List Cd} {R : List Sl} {d : Cd} {r : Sl} (h : Ro.RowsOwn KC W base A n c (L ++ [d]) (R ++ [r])) : W.ownsRow base 9 1 (slV r) r.2.1 (strs d.compat) := by
  have hR := h.2.2.1
  rw [List.length_append, List.length_append, List.length_singleton, List.length_singleton] at hR
  have := (h.2.2.2.1 R.length (by rw [List.length_append, List.length_singleton]; omega)).2
  have e1 : (R ++ [r]).getD R.length sl0 = r := by rw [getD_la]
  have e2 : (L ++ [d]).getD R.length KC.z = d := by rw [show R.length = L.length by omega, getD_la]
  unfold rowV at this
  rw [e1, e2] at this
  exact this
theorem rows_take {α : Type} (K : Kd α) {w : World} {A : Option Addr} {n m : Nat} {L : List α} {R : List Sl} (h : Ro.RowsIn K w A n L R) (hm : m ≤ n) (hm0 : 0 < m) : Ro.RowsIn K w A m (L.take m) (R.take m) := by
  have hL := h.1
  have hR := h.2.1
  have l1 : (L.take m).length = m := by rw [List.length_take]; omega
  have l2 : (R.take m).length = m := by rw [List.length_take]; omega
  have gL : ∀ i, i < m → (L.take m).getD i K.z = L.getD i K.z := fun i hi => by
    rw [List.getD_eq_getElem?_getD, List.getElem?_take, if_pos hi, ← List.getD_eq_getElem?_getD]
  have gR : ∀ i, i < m → (R.take m).getD i sl0 = R.getD i sl0 := fun i hi => by
    rw [List.getD_eq_getElem?_getD, List.getElem?_take, if_pos hi, ← List.getD_eq_getElem?_getD]
  obtain ⟨b, o, hA, hb, hc⟩ := h.2.2.1.at (by omega)
  refine ⟨l1.symm, by rw [l1, l2], ⟨by rw [rows_len K _ _ (by rw [l1, l2]), l1], .inr ⟨b, o, hA, hb, fun j u hu => hc j u ?_⟩⟩, fun i hi => ?_⟩
  · have hj : j < m * K.k := by
      have := (List.getElem?_eq_some_iff.1 hu).1
      rw [rows_len K _ _ (by rw [l1, l2]), l1] at this
      exact this
    have hk : 0 < K.k := Nat.pos_of_ne_zero fun e => by rw [e] at hj; omega
    have h1 : j / K.k < m := Nat.div_lt_of_lt_mul (by rw [Nat.mul_comm]; exact hj)
    have h2 : j % K.k < K.k := Nat.mod_lt _ hk
    have e : j = j / K.k * K.k + j % K.k := by rw [Nat.mul_comm]; exact (Nat.div_add_mod j K.k).symm
    rw [e] at hu ⊢
    rw [rows_at K _ _ (by rw [l1, l2]) _ _ (by rw [l1]; exact h1) h2, gL _ h1, gR _ h1] at hu
    rw [rows_at K _ _ (by rw [← hL, hR, ← hL]) _ _ (by rw [← hL]; omega) h2]
    exact hu
  · rw [gL i hi, gR i hi]
    exact h.2.2.2 i (by omega)
theorem sms_take (m n : Nat) (h : m ≤ n) : (sms n).take m = sms m := by
  unfold sms
  rw [← List.map_take, List.take_range, Nat.min_eq_left h]
theorem sms_card (n k : Nat) (h : k < n) (_hn : n ≤ 66) (h64 : k < 64) : CardAt (sms n) k := by
  refine ⟨h64, by rw [sms_at n k h]; exact smp_ok (nm_ok k (by omega)), fun j hj => ?_⟩
  rw [sms_at n k h, sms_at n j (by omega)]
  intro e
  have := nm_inj (by omega) (by omega) (show nm j = nm k from e)
  omega
theorem sms_mild (n : Nat) (hn : n ≤ 66) : MildL 1099511627776 (sms n) := ⟨by rw [sms_len]; omega, fun k => by
  by_cases h : k < n
  · rw [sms_at n k h]
    exact mild_ok (by show 3 ≤ 31; omega) (by omega)
  · rw [List.getD_eq_getElem?_getD, List.getElem?_eq_none (by rw [sms_len]; omega)]
    exact ⟨Nat.zero_le _, Nat.zero_le _, Nat.zero_le _, Nat.zero_le _, fun k => by simp [cd0]⟩⟩
theorem take_caps {R : List Sl} (h : ∀ k, (R.getD k sl0).2.1 ≤ (R.getD k sl0).2.2) (m : Nat) : ∀ k, ((R.take m).getD k sl0).2.1 ≤ ((R.take m).getD k sl0).2.2 := fun k => by
  rw [List.getD_eq_getElem?_getD, List.getElem?_take]
  by_cases hk : k < m
  · rw [if_pos hk, ← List.getD_eq_getElem?_getD]
    exact h k
  · rw [if_neg hk]
    exact Nat.le_refl _
theorem check_sms {W : World} {base c m : Nat} {A : Option Addr} {R : List Sl} {at0 : Nat} {er : Int} (h : Ro.RowsOwn KC W base A 66 c (sms 66) R) (hm : m ≤ 66) (h0 : 0 < m) (hc : ChkC (sms m) at0 er) :
    Calls Try.prog 14 #[.slice A m c] W (fun e w' => e = .returned (.tuple #[.int .i64 at0, .int .i64 er]) ∧ Below W.heap.size W w') := by
  have hr := rows_take KC h.rows hm h0
  rw [sms_take m 66 hm] at hr
  exact check_any A c m (sms m) (R.take m) at0 er W hc (sms_mild m hm) (take_caps (fun k => (h.neat k).2) m) hr
theorem chk_64 : ChkC (sms 64) 0 0 := .inr ⟨fun k hk => by rw [sms_len] at hk; exact sms_card 64 k hk (by omega) hk, rfl, rfl⟩
theorem chk_65 : ChkC (sms 65) 64 70 := .inl ⟨by rw [sms_len]; omega, fun h => absurd h.1 (by omega), fun k hk => sms_card 65 k (by omega) (by omega) hk, rfl⟩
theorem name_p : isName [112] = true := by decide +kernel
theorem ent_top (w : World) : Calls Try.prog 19 #[.int .i64 1, .int .i64 9223372036854775807, .int .i64 1, .slice none 0 0] w (fun e w' => e = .returned (.int .i64 (-9223372036854775808)) ∧ Below w.heap.size w w') := by
  have := Kl.entry_nil 1 9223372036854775807 1 w (by omega)
  rw [show Ka.entV 1 9223372036854775807 1 [] = -9223372036854775808 from by decide +kernel] at this
  exact this
theorem ent_low (w : World) : Calls Try.prog 19 #[.int .i64 (-1), .int .i64 5, .int .i64 5, .slice none 0 0] w (fun e w' => e = .returned (.int .i64 0) ∧ Below w.heap.size w w') := by
  have := Kl.entry_nil (-1) 5 5 w (by omega)
  rw [show Ka.entV (-1) 5 5 [] = 0 from by decide +kernel] at this
  exact this
theorem conv_nm (W : World) (k : Nat) (hk : k < 66) : (convert 32 9 (.slice (some ⟨W.heap.size, 0, none⟩) 2 2)).run Try.prog (W.alloc (.cells #[.int .u8 (97 + (k : Int) / 26), .int .u8 (97 + (k : Int) % 26)] 5)) =
    .ok (.string (str [97 + UInt8.ofNat (k / 26), 97 + UInt8.ofNat (k % 26)])) (W.alloc (.cells #[.int .u8 (97 + (k : Int) / 26), .int .u8 (97 + (k : Int) % 26)] 5)) := by
  refine Lib.run_convert_whole _ 32 5 9 Try.underlying32 Try.underlying5 Try.underlying9 W.heap.size 0 (str [97 + UInt8.ofNat (k / 26), 97 + UInt8.ofNat (k % 26)]) (fun i hi => ?_) 2
  have h2 : i < 2 := hi
  rw [Lib.cell_of_heap (heap_alloc_new W _), Nat.zero_add]
  rcases (show i = 0 ∨ i = 1 by omega) with rfl | rfl
  · show some (Value.int .u8 (97 + (k : Int) / 26)) = some (.int .u8 ((97 + UInt8.ofNat (k / 26)).toNat : Int))
    congr 2
    simp
    omega
  · show some (Value.int .u8 (97 + (k : Int) % 26)) = some (.int .u8 ((97 + UInt8.ofNat (k % 26)).toNat : Int))
    congr 2
    simp
    omega
theorem str_nm (k : Nat) : (⟨#[107]⟩ : ByteArray) ++ str [97 + UInt8.ofNat (k / 26), 97 + UInt8.ofNat (k % 26)] = str (nm k) := by
  apply ByteArray.ext
  simp [str, nm]
set_option maxRecDepth 100000 in
set_option maxHeartbeats 8000000 in
theorem names_any (w : World) : Calls Try.prog 3 #[] w fun e w' => e = .returned (.bool true) ∧ Below w.heap.size w w' := by
  have HN := Lib.hid new_any
  go_enter Try.func3, Try.ntmps3
  go_wp2_with fail
  refine (HN.out _).mono ?_
  rintro e w1 ⟨rfl, hw1⟩
  have HR1 : Hid (RegAt w1 w.heap.size [] [] [] false) := Lib.hid (by rw [hw1]; exact new_reg w)
  have B1 : Hid (Below w.heap.size w w1) := Lib.hid (by rw [hw1]; exact grows' w _)
  clear hw1
  go_wp2_with fail
  refine (works_any w1).mono ?_
  rintro e w2 ⟨rfl, b2⟩
  have HR2 := Lib.hid (HR1.out.below b2)
  have B2 := Lib.hid (bt B1.out b2)
  have hg2 : w.heap.size < w2.heap.size := HR2.out.blk.lt
  clear b2 HR1 B1
  go_wp2_with fail
  go_loopw [2, 3] (fun v2 v3 wr => ∃ (k : Nat) (R : List Sl) (C : Cs), k ≤ 66 ∧ v3 = .int .i64 (k : Int) ∧ (∃ A c, v2 = .slice A k c ∧ Ro.RowsOwn KC wr w2.heap.size A k c (sms k) R ∧ ApA C A) ∧ RegAt wr w.heap.size C [] [] false ∧ plain C = sms (min k 64) ∧ Below w.heap.size w wr ∧ w2.heap.size ≤ wr.heap.size) (fun _ v3 _ => 66 - (RowKit.intOf v3).toNat)
  case atStart => exact ⟨0, [], [], by omega, rfl, ⟨none, 0, rfl, ⟨rfl, own_nilK _ _ _ _, InnOwn.nil _ _⟩, fun i a b _ h => by cases h⟩, HR2.out, rfl, B2.out, Nat.le_refl _⟩
  case round =>
    clear HR2 B2
    obtain ⟨k, R, C, hk, rfl, ⟨A, c, rfl, hro, hap⟩, hreg, hpl, hbk, hsz⟩ := hrel
    have AP := Lib.hid hap
    have RO := Lib.hid hro
    have RG := Lib.hid hreg
    have PL := Lib.hid hpl
    have BK := Lib.hid hbk
    clear hro hreg hpl hbk hap
    by_cases hlt : k < 66
    · have hcv := conv_nm wr k hlt
      have HS : Hid (∀ W, Calls Try.prog 11 #[.string (⟨#[107]⟩ ++ str [97 + UInt8.ofNat (k / 26), 97 + UInt8.ofNat (k % 26)])] W (MadeC (smp (nm k)) W)) := Lib.hid fun W => by rw [str_nm]; exact sample_any (nm k) W
      have hbox := Lib.hid (grows' wr (.cells #[.int .u8 (97 + (k : Int) / 26), .int .u8 (97 + (k : Int) % 26)] 5))
      go_wp2_with fail
      refine (HS.out _).mono ?_
      rintro e w4 ⟨A4, c4, n4, rfl, hn4, ho4, b4⟩
      obtain rfl : n4 = 1 := hn4
      have O4 := Lib.hid (own_monoK ho4 (show wr.heap.size ≤ _ from hbox.out.size))
      have B4 := Lib.hid (bt hbox.out b4)
      clear ho4 b4 HS hcv hbox
      simp only [cardV, cells7, slV, smp]
      generalize hSN : str (nm k) = SN
      generalize hSB : str busN = SB
      generalize hSE : str [] = SE
      have HSN := Lib.hid hSN
      have HSB := Lib.hid hSB
      have HSE := Lib.hid hSE
      clear hSN hSB hSE
      go_upto_region 9 with (fail)
      have c0 : (w4.alloc (.cells #[.string SN, .string SB, .int .u8 1, .slice A4 1 c4, .int .i8 5, .string SE, .int .i16 (-1)] 30)).cell? ⟨w4.heap.size, 0, none⟩ = some (.string SN) := by rw [Lib.cell_of_heap (heap_alloc_new w4 _)]; rfl
      have c1 : (w4.alloc (.cells #[.string SN, .string SB, .int .u8 1, .slice A4 1 c4, .int .i8 5, .string SE, .int .i16 (-1)] 30)).cell? ⟨w4.heap.size, 1, none⟩ = some (.string SB) := by rw [Lib.cell_of_heap (heap_alloc_new w4 _)]; rfl
      have c2 : (w4.alloc (.cells #[.string SN, .string SB, .int .u8 1, .slice A4 1 c4, .int .i8 5, .string SE, .int .i16 (-1)] 30)).cell? ⟨w4.heap.size, 2, none⟩ = some (.int .u8 1) := by rw [Lib.cell_of_heap (heap_alloc_new w4 _)]; rfl
      have c3 : (w4.alloc (.cells #[.string SN, .string SB, .int .u8 1, .slice A4 1 c4, .int .i8 5, .string SE, .int .i16 (-1)] 30)).cell? ⟨w4.heap.size, 3, none⟩ = some (.slice A4 1 c4) := by rw [Lib.cell_of_heap (heap_alloc_new w4 _)]; rfl
      have c4' : (w4.alloc (.cells #[.string SN, .string SB, .int .u8 1, .slice A4 1 c4, .int .i8 5, .string SE, .int .i16 (-1)] 30)).cell? ⟨w4.heap.size, 4, none⟩ = some (.int .i8 5) := by rw [Lib.cell_of_heap (heap_alloc_new w4 _)]; rfl
      have c5 : (w4.alloc (.cells #[.string SN, .string SB, .int .u8 1, .slice A4 1 c4, .int .i8 5, .string SE, .int .i16 (-1)] 30)).cell? ⟨w4.heap.size, 5, none⟩ = some (.string SE) := by rw [Lib.cell_of_heap (heap_alloc_new w4 _)]; rfl
      have c6 : (w4.alloc (.cells #[.string SN, .string SB, .int .u8 1, .slice A4 1 c4, .int .i8 5, .string SE, .int .i16 (-1)] 30)).cell? ⟨w4.heap.size, 6, none⟩ = some (.int .i16 (-1)) := by rw [Lib.cell_of_heap (heap_alloc_new w4 _)]; rfl
      have Y4 := Lib.hid (grows' w4 (.cells #[.string SN, .string SB, .int .u8 1, .slice A4 1 c4, .int .i8 5, .string SE, .int .i16 (-1)] 30))
      generalize w4.alloc (.cells #[.string SN, .string SB, .int .u8 1, .slice A4 1 c4, .int .i8 5, .string SE, .int .i16 (-1)] 30) = y at c0 c1 c2 c3 c4' c5 c6 Y4 ⊢
      have BY := Lib.hid (bt B4.out Y4.out)
      have hsy : wr.heap.size ≤ y.heap.size := BY.out.size
      have hs4 : wr.heap.size ≤ w4.heap.size := B4.out.size
      have hrow : Hid (some w4.heap.size ≠ (Value.slice A k c).ownBlock) := Lib.hid fun e => by
        have := (RO.out.2.1.lt _ e.symm).2
        omega
      have hrg : Hid (some w.heap.size ≠ (Value.slice A k c).ownBlock) := Lib.hid fun e => by
        have := (RO.out.2.1.lt _ e.symm).1
        omega
      have HK : Hid ([.string SN, .string SB, .int .u8 1, .slice A4 1 c4, .int .i8 5, .string SE, .int .i16 (-1)] = KC.row (smp (nm k), (A4, 1, c4))) := Lib.hid (by rw [← HSN.out, ← HSB.out, ← HSE.out]; rfl)
      have HCS : Hid ((y.cell? ⟨w4.heap.size, 0, none⟩ = some (.string SN) ∧ y.cell? ⟨w4.heap.size, 1, none⟩ = some (.string SB) ∧ y.cell? ⟨w4.heap.size, 2, none⟩ = some (.int .u8 1) ∧ y.cell? ⟨w4.heap.size, 3, none⟩ = some (.slice A4 1 c4)) ∧ y.cell? ⟨w4.heap.size, 4, none⟩ = some (.int .i8 5) ∧ y.cell? ⟨w4.heap.size, 5, none⟩ = some (.string SE) ∧ y.cell? ⟨w4.heap.size, 6, none⟩ = some (.int .i16 (-1))) := Lib.hid ⟨⟨c0, c1, c2, c3⟩, c4', c5, c6⟩
      go_upto_region 10 with (at_builtin; (refine wpList_append_apartK (o := ⟨some 64, _, _, _, _, _⟩) rfl (.tmp 61) (.tmp 63) 25 rfl w2.heap.size 30 (.agg #[.string ⟨#[]⟩, .string ⟨#[]⟩, .int .u8 0, .slice none 0 0, .int .i8 0, .string ⟨#[]⟩, .int .i16 0]) 7 96 (by omega) Try.underlying25 info_card rfl _ k (KC.rows (sms k) R) rfl (RO.out.below (bal BY.out rfl _)).2.1 _ 1 1 [.string SN, .string SB, .int .u8 1, .slice A4 1 c4, .int .i8 5, .string SE, .int .i16 (-1)] rfl (by omega) rfl (news7 y _ _ rfl) (by intro u hu; simp at hu; rcases hu with rfl | rfl | rfl | rfl | rfl | rfl | rfl <;> rfl) (by omega) (by omega) (Nat.le_trans hsz (bal BY.out rfl _).size) ?_); intro v5 w5 ho5 hg5 hv5; rw [HK.out] at ho5; obtain ⟨A3, c3', rfl, hr3⟩ := RowsOwn.snoc (r := (A4, 1, c4)) (d := smp (nm k)) (RO.out.below (bal BY.out rfl _)) rfl (own_belowK O4.out (bal Y4.out rfl _)) hsz RO.out.2.2.lt hg5 ho5; have HG5 := Lib.hid hg5; have HV5 := Lib.hid hv5; have HR3 := Lib.hid hr3; clear ho5 hg5 hv5 hr3)
      obtain ⟨⟨q0, q1, q2, q3⟩, q4, q5, q6⟩ := HCS.out
      replace q0 := box_kept HG5.out hrow.out q0
      replace q1 := box_kept HG5.out hrow.out q1
      replace q2 := box_kept HG5.out hrow.out q2
      replace q3 := box_kept HG5.out hrow.out q3
      replace q4 := box_kept HG5.out hrow.out q4
      replace q5 := box_kept HG5.out hrow.out q5
      replace q6 := box_kept HG5.out hrow.out q6
      have BA := Lib.hid (bal BY.out rfl (.cells #[.string SN, .string SB, .int .u8 1, .slice A4 1 c4, .int .i8 5, .string SE, .int .i16 (-1)] 30))
      have RY := RG.out.below BA.out
      have R5 := Lib.hid (RY.keptR HG5.out hrg.out (ap_row AP.out) (fun i hi => absurd hi (by simp)))
      have B5 := Lib.hid (RowsOwn.grown (RO.out.below BA.out) (bt BK.out BA.out) (Nat.le_of_lt hg2) (bt BK.out BA.out).size HG5.out)
      have S5 := Nat.le_trans hsz (Nat.le_trans BA.out.size HG5.out.size)
      have AP5 := Lib.hid (AP.out.grow (tx_one RY.ct PL.out) HV5.out)
      have HL5 : Hid (∀ b, A3 = some b → b.block < w5.heap.size) := Lib.hid fun b hb => (HR3.out.2.1.lt b.block (by rw [hb]; rfl)).2
      have HE := Lib.hid (enter_smp (nm k) w.heap.size C [] [] false A4 c4 1 _ w5 (by show 3 ≤ 31; omega) R5.out rfl (last_own HR3.out))
      clear HG5 HV5 HCS RY BA RO RG AP BK BY Y4 O4 B4 hrow hrg HK c0 c1 c2 c3 c4' c5 c6 hsy hs4 hsz
      simp only [cardV, cells7, slV] at HE
      rw [show str (smp (nm k)).name = SN from HSN.out, show str (smp (nm k)).fam = SB from HSB.out, show str (smp (nm k)).quirk = SE from HSE.out, show (smp (nm k)).level = 1 from rfl, show (smp (nm k)).score = 5 from rfl, show (smp (nm k)).entry = -1 from rfl] at HE
      go_wp2_with fail
      refine HE.out.mono ?_
      rintro e w6 ⟨C', F', er, rfl, hr6, hg6, he6⟩
      obtain ⟨er12, rfl, hpl6, hC6⟩ := enter_step he6 PL.out hlt
      have R6 := Lib.hid hr6
      have RO6 := Lib.hid (RowsOwn.keptLow HR3.out hg6 hg2)
      have AP6 := Lib.hid (AP5.out.enter HL5.out hC6)
      have PL6 := Lib.hid hpl6
      have B6 := Lib.hid (bgb B5.out hg6 (Nat.le_refl _))
      have S6 := Nat.le_trans S5 hg6.size
      clear hr6 hg6 he6 hpl6 hC6 R5 AP5 HL5 HR3 B5 HE PL q0 q1 q2 q3 q4 q5 q6
      rcases er12 with ⟨h64, rfl⟩ | ⟨h64, rfl⟩
      all_goals
        go_wp2_with fail
        go_roundw
        case rel => exact ⟨k + 1, _, C', by omega, by go_num, ⟨A3, c3', rfl, by rw [sms_S]; exact RO6.out, AP6.out⟩, R6.out, PL6.out, B6.out, S6⟩
        case measure => simp [RowKit.intOf]; omega
    · obtain rfl : k = 66 := by omega
      rw [show ((66 : Nat) : Int) = (66 : Int) from rfl]
      have CL : Hid (C.length = 64) := Lib.hid (pl_len PL.out)
      have RO2 := Lib.hid (RO.out.mono (Nat.le_refl w2.heap.size))
      have PL2 := Lib.hid PL.out
      clear RO PL
      have HK : Hid (∀ W, Calls Try.prog 11 #[.string ⟨#[107, 97, 97]⟩] W (MadeC (smp (nm 0)) W)) := Lib.hid fun W => sample_any (nm 0) W
      go_wp2_with fail
      go_loopw [6] (fun v6 wi => ∃ (k : Nat) (F : Cs), k ≤ 65 ∧ v6 = .int .i64 (k : Int) ∧ F.length = min k 64 ∧ Ro.RowsOwn KC wi w2.heap.size A 66 c (sms 66) R ∧ RegAt wi w.heap.size C F [] false ∧ Below w.heap.size w wi ∧ w2.heap.size ≤ wi.heap.size) (fun v6 _ => 65 - (RowKit.intOf v6).toNat)
      case atStart => exact ⟨0, [], by omega, rfl, rfl, RO2.out, RG.out, BK.out, hsz⟩
      case round =>
        clear RO2 RG BK hsz
        obtain ⟨k, F, hk, rfl, hF, hro, hreg, hbk, hsz⟩ := hrel
        have RO := Lib.hid hro
        have RG := Lib.hid hreg
        have BK := Lib.hid hbk
        have FL := Lib.hid hF
        clear hro hreg hbk hF
        by_cases hlt : k < 65
        · go_wp2_with fail
          refine (HK.out _).mono ?_
          rintro e w4 ⟨A4, c4, n4, rfl, hn4, ho4, b4⟩
          obtain rfl : n4 = 1 := hn4
          have HE := Lib.hid (enter_smp (nm 0) w.heap.size C F [] false A4 c4 1 _ w4 (by show 3 ≤ 31; omega) (RG.out.below b4) rfl ho4)
          have B4 := Lib.hid (bt BK.out b4)
          have RO4 := Lib.hid (RO.out.below b4)
          have hs4 := Nat.le_trans hsz b4.size
          clear ho4 b4
          go_wp2_with fail
          refine HE.out.mono ?_
          rintro e w5 ⟨C', F', er, rfl, hr5, hg5, he5⟩
          have RO5 := Lib.hid (RO4.out.keptLow hg5 hg2)
          have B5 := Lib.hid (bgb B4.out hg5 (Nat.le_refl _))
          have hs5 := Nat.le_trans hs4 hg5.size
          have hdp : Dup C (nm 0) := is_dup PL2.out (by omega)
          have hst : (C' = C) ∧ ((k < 64 ∧ er = 71 ∧ F'.length = k + 1) ∨ (¬ k < 64 ∧ er = 3 ∧ F'.length = 64)) := by
            have hF := FL.out
            by_cases h64 : k < 64
            · obtain ⟨h1, h2, r, h3, _⟩ := enter_dup he5 (smp_ok (nm_ok 0 (by omega))) hdp (by omega)
              exact ⟨h2, .inl ⟨h64, h1, by rw [h3, List.length_append, List.length_singleton]; omega⟩⟩
            · obtain ⟨h1, h2, h3⟩ := enter_fullF he5 (smp_ok (nm_ok 0 (by omega))) hdp (by omega)
              exact ⟨h2, .inr ⟨h64, h1, by rw [h3]; omega⟩⟩
          obtain ⟨rfl, hst⟩ := hst
          have R5 := Lib.hid hr5
          clear hr5 hg5 he5 hdp HE B4 RO4 RO BK RG FL hs4 hsz
          rcases hst with ⟨h64, rfl, hF5⟩ | ⟨h64, rfl, hF5⟩
          all_goals
            have FL5 := Lib.hid hF5
            clear hF5
            go_wp2_with fail
            go_roundw
            case rel => first | exact ⟨k + 1, F', by omega, by go_num, by rw [FL5.out]; omega, RO5.out, R5.out, B5.out, hs5⟩ | exact ⟨65, by omega, rfl, F', by rw [FL5.out]; omega, RO5.out, R5.out, B5.out⟩
            case measure => first | (simp [RowKit.intOf]; omega) | simp [RowKit.intOf]
        · obtain rfl : k = 65 := by omega
          have FL2 : Hid (F.length = 64) := Lib.hid FL.out
          clear FL HK
          rw [show ((65 : Nat) : Int) = (65 : Int) from rfl]
          have HMK : Hid (∀ (N : List Nt) (W : World) (i : Int), RegAt W w.heap.size C F N false → Calls Try.prog 13 #[.pointer (some ⟨w.heap.size, 0, none⟩), .string ⟨#[112]⟩, .int .i64 8, .int .i64 i] W (MarkPost w.heap.size C F N false ⟨[112], 8, i, 0⟩ W)) := Lib.hid fun N W i h => mark_any w.heap.size C F N false [112] 8 i W h (by decide)
          go_wp2_with fail
          go_loopw [8] (fun v8 wi => ∃ (k : Nat) (N : List Nt), k ≤ 257 ∧ v8 = .int .i64 (k : Int) ∧ N.length = min k 256 ∧ Ro.RowsOwn KC wi w2.heap.size A 66 c (sms 66) R ∧ RegAt wi w.heap.size C F N false ∧ Below w.heap.size w wi ∧ w2.heap.size ≤ wi.heap.size) (fun v8 _ => 257 - (RowKit.intOf v8).toNat)
          case atStart => exact ⟨0, [], by omega, rfl, rfl, RO.out, RG.out, BK.out, hsz⟩
          case round =>
            clear RO RG BK hsz
            obtain ⟨k, N, hk, rfl, hN, hro, hreg, hbk, hsz⟩ := hrel
            have RO := Lib.hid hro
            have RG := Lib.hid hreg
            have BK := Lib.hid hbk
            have NL := Lib.hid hN
            clear hro hreg hbk hN
            by_cases hlt : k < 257
            · have HM := Lib.hid (HMK.out N _ (k : Int) RG.out)
              go_wp2_with fail
              refine HM.out.mono ?_
              rintro e w4 ⟨N', er, rfl, hr4, hg4, hm4⟩
              have RO4 := Lib.hid (RO.out.keptLow hg4 hg2)
              have B4 := Lib.hid (bgb BK.out hg4 (Nat.le_refl _))
              have hs4 := Nat.le_trans hsz hg4.size
              have hst : (k < 256 ∧ er = 0 ∧ N'.length = k + 1) ∨ (¬ k < 256 ∧ er = 3 ∧ N'.length = 256) := by
                have hN := NL.out
                rcases hm4 with ⟨h, _⟩ | ⟨_, h, _⟩ | ⟨_, _, h, h1, h2⟩ | ⟨_, _, h, h1, h2⟩
                · cases h
                · exact absurd ⟨name_p, by show (0 : Int) ≤ 8; decide, by show (8 : Int) ≤ 8; decide⟩ h
                · exact .inr ⟨by omega, h1, by rw [h2]; exact h⟩
                · exact .inl ⟨by omega, h1, by rw [h2, List.length_append, List.length_singleton]; omega⟩
              have R4 := Lib.hid hr4
              clear hr4 hg4 hm4 HM RO BK RG NL hsz
              rcases hst with ⟨h64, rfl, hN4⟩ | ⟨h64, rfl, hN4⟩
              all_goals
                have NL4 := Lib.hid hN4
                clear hN4
                first
                  | (have hb : decide ((k : Int) < 256) = true := decide_eq_true (by omega))
                  | (have hb : decide ((k : Int) < 256) = false := decide_eq_false (by omega))
                go_wp2_with fail
                go_roundw
                case rel => first | exact ⟨k + 1, N', by omega, by go_num, by rw [NL4.out]; omega, RO4.out, R4.out, B4.out, hs4⟩ | exact ⟨257, by omega, rfl, N', by rw [NL4.out]; omega, RO4.out, R4.out, B4.out⟩
                case measure => first | (simp [RowKit.intOf]; omega) | simp [RowKit.intOf]
            · obtain rfl : k = 257 := by omega
              have NL2 : Hid (N.length = 256) := Lib.hid NL.out
              clear NL HMK
              rw [show ((257 : Nat) : Int) = (257 : Int) from rfl]
              obtain ⟨gA, rfl, _, hgA⟩ := own_shapeK RO.out.2.1 (by omega)
              have hc66 : 66 ≤ c := (own_neat (RO.out.2.1)).2
              have H1 := Lib.hid (check_sms RO.out (by omega) (by omega) chk_64)
              go_wp2_with fail
              refine H1.out.mono ?_
              rintro e w4 ⟨rfl, b4⟩
              have R4 := Lib.hid (RG.out.below b4)
              have B4 := Lib.hid (bt BK.out b4)
              have H2 := Lib.hid (check_sms (RO.out.below b4) (by omega) (by omega) chk_65)
              clear b4 H1 RO RG BK
              go_wp2_with fail
              refine H2.out.mono ?_
              rintro e w5 ⟨rfl, b5⟩
              have R5 := Lib.hid (R4.out.below b5)
              have B5 := Lib.hid (bt B4.out b5)
              clear b5 H2 R4 B4
              have L0 := Lib.hid fun W => level_any 0 W (by omega)
              have L4 := Lib.hid fun W => level_any 4 W (by omega)
              have L5 := Lib.hid fun W => level_any 5 W (by omega)
              rw [show levelB 0 = ⟨#[101, 97, 114, 108, 121]⟩ from rfl, show levelE 0 = 0 from rfl] at L0
              rw [show levelB 4 = ⟨#[108, 97, 116, 101]⟩ from rfl, show levelE 4 = 0 from rfl] at L4
              rw [show levelB 5 = ⟨#[]⟩ from rfl, show levelE 5 = 1 from rfl] at L5
              go_wp2_with fail
              refine (L0.out _).mono ?_
              rintro e w6 ⟨rfl, b6⟩
              have R6 := Lib.hid (R5.out.below b6)
              have B6 := Lib.hid (bt B5.out b6)
              clear b6 R5 B5 L0
              go_wp2_with fail
              refine (L4.out _).mono ?_
              rintro e w7 ⟨rfl, b7⟩
              have R7 := Lib.hid (R6.out.below b7)
              have B7 := Lib.hid (bt B6.out b7)
              clear b7 R6 B6 L4
              go_wp2_with fail
              refine (L5.out _).mono ?_
              rintro e w8 ⟨rfl, b8⟩
              have R8 := Lib.hid (R7.out.below b8)
              have B8 := Lib.hid (bt B7.out b8)
              clear b8 R7 B7 L5
              have H8 := Lib.hid (cards_any _ _ _ _ _ _ R8.out)
              go_wp2_with fail
              refine H8.out.mono ?_
              rintro e w9 ⟨A9, c9, n9, R9, rfl, hr9, b9⟩
              obtain rfl : n9 = 64 := by rw [hr9.1, ← CL.out]; simp [plain]
              have RG9 := Lib.hid (R8.out.below b9)
              have B9 := Lib.hid (bt B8.out b9)
              clear hr9 b9 R8 B8 H8
              have H9 := Lib.hid (refused_any _ _ _ _ _ _ RG9.out)
              go_wp2_with fail
              refine H9.out.mono ?_
              rintro e w10 ⟨A10, c10, n10, R10, rfl, hr10, b10⟩
              obtain rfl : n10 = 64 := by rw [hr10.1, ← FL2.out]; simp [plain]
              have RG10 := Lib.hid (RG9.out.below b10)
              have B10 := Lib.hid (bt B9.out b10)
              clear hr10 b10 RG9 B9 H9
              have H10 := Lib.hid (notes_any _ _ _ _ _ _ RG10.out)
              go_wp2_with fail
              refine H10.out.mono ?_
              rintro e w11 ⟨A11, c11, n11, rfl, hn11, _, b11⟩
              obtain rfl : n11 = 256 := by rw [hn11, NL2.out]
              have B11 := Lib.hid (bt B10.out b11)
              clear hn11 b11 RG10 B10 H10
              have E1 := Lib.hid ent_top
              have E2 := Lib.hid ent_low
              go_wp2_with fail
              refine (E1.out _).mono ?_
              rintro e w12 ⟨rfl, b12⟩
              have B12 := Lib.hid (bt B11.out b12)
              clear b12 B11 E1
              go_wp2_with fail
              refine (E2.out _).mono ?_
              rintro e w13 ⟨rfl, b13⟩
              have B13 := Lib.hid (bt B12.out b13)
              clear b13 B12 E2
              go_wp2_with fail
              go_ret
              exact ⟨rfl, B13.out⟩
end Go.Proofs.Ytcbjmmehnfakkaa.Kn
