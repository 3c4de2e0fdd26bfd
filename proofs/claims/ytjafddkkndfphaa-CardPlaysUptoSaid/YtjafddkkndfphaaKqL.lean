/- The law CardPlays, walked. -/
import Derived.Test.YtjafddkkndfphaaKqK
import Derived.Test.YtjafddkkndfphaaKrG
import Derived.Test.YtjafddkkndfphaaKrW
namespace Go.Proofs.Ytjafddkkndfphaa.Kq
open Go.ChangeShapes Go.WideShapes Go.ChangeAt Go.RowKit Own Ro wordsNames Kc Kr

def st0 : St := ⟨[], [], [], false, sl0, sl0, sl0, [], []⟩
theorem rows_nil (w : World) : RowsOwn KC w 0 none 0 0 [] [] := ⟨rfl, World.ownsRow_nil w 0 _ _, InnOwn.nil w 0⟩
theorem mild_nil : MildL 1099511627776 [] := ⟨by simp, fun k => ⟨by simp [cd0], by simp [cd0], by simp [cd0], by simp [cd0], fun k => by simp [cd0]⟩⟩
theorem qat0 {W : World} {q : Nat} (h : W.heap[q]? = some (.cells #[.slice none 0 0, .slice none 0 0, .slice none 0 0, .bool false] 63 (0, 0))) : Qat W q sl0 sl0 sl0 [] [] [] [] [] false :=
  ⟨h, rows_nil W, rows_nil W, World.ownsRow_nil W 0 _ _, rfl, by simp, by simp, by simp, mild_nil, mild_nil, fun g hg => by simp [sl0, slV, Value.ownBlock] at hg⟩
theorem tx0 (y : Nat) : ¬ Tx [] [] y := fun e => by
  rcases e with ⟨i, _, hi, _⟩ | ⟨i, _, hi, _⟩ <;> simp at hi
theorem lb0 (y : Nat) : ¬ LB sl0 sl0 sl0 y := fun e => by
  rcases e with e | e | e <;> simp [sl0, slV, Value.ownBlock] at e
/-- Where the law's script begins. -/
def begun (w : World) : World := ((((((w.alloc (.cells ⟨regV [] [] [] false⟩ 81)).alloc (.cells ⟨regV [] [] [] false⟩ 81)).alloc (.cells #[.pointer (some ⟨w.heap.size, 0, none⟩), .pointer (some ⟨w.heap.size + 1, 0, none⟩)] 22)).alloc
    (.cells #[.slice none 0 0, .slice none 0 0, .slice none 0 0, .bool false] 63)).alloc (.cells #[.slice none 0 0, .slice none 0 0, .slice none 0 0, .bool false] 63)).alloc (.cells #[.pointer (some ⟨w.heap.size + 1 + 1 + 1, 0, none⟩), .pointer (some ⟨w.heap.size + 1 + 1 + 1 + 1, 0, none⟩)] 61))
theorem begun_below (w : World) : Below w.heap.size w (begun w) := bt (bt (bt (bt (bt (grows' w _) (grows' _ _)) (grows' _ _)) (grows' _ _)) (grows' _ _)) (grows' _ _)
theorem begun_size (w : World) : (begun w).heap.size = w.heap.size + 6 := by simp [begun]
theorem later {W : World} {k : Nat} {x : Obj} (h : W.heap[k]? = some x) (o : Obj) : (W.alloc o).heap[k]? = some x := ((grows' W o).block k (Array.getElem?_eq_some_iff.1 h).1).trans h
theorem newest (W : World) {k : Nat} (a : Array Value) (t : TypeId) (h : W.heap.size = k) : (W.alloc (.cells a t)).heap[k]? = some (.cells a t (0, 0)) := by
  subst h
  exact heap_alloc_new W _
theorem begun_two (w : World) : Two w.heap.size (begun w) w.heap.size (w.heap.size + 1 + 1 + 1) (w.heap.size + 1) (w.heap.size + 1 + 1 + 1 + 1) st0 st0 := by
  have r0 : RegAt (begun w) w.heap.size [] [] [] false := (new_reg w).below (bt (bt (bt (bt (grows' _ _) (grows' _ _)) (grows' _ _)) (grows' _ _)) (grows' _ _))
  have r1 : RegAt (begun w) (w.heap.size + 1) [] [] [] false := by
    have := new_reg (w.alloc (.cells ⟨regV [] [] [] false⟩ 81))
    rw [show (w.alloc (.cells ⟨regV [] [] [] false⟩ 81)).heap.size = w.heap.size + 1 by simp] at this
    exact this.below (bt (bt (bt (grows' _ _) (grows' _ _)) (grows' _ _)) (grows' _ _))
  have q0 : Qat (begun w) (w.heap.size + 1 + 1 + 1) sl0 sl0 sl0 [] [] [] [] [] false := qat0 (later (later (newest _ _ _ (by simp)) _) _)
  have q1 : Qat (begun w) (w.heap.size + 1 + 1 + 1 + 1) sl0 sl0 sl0 [] [] [] [] [] false := qat0 (later (newest _ _ _ (by simp)) _)
  have wr : ∀ {g q y : Nat}, Wr g q sl0 sl0 sl0 y → y = g ∨ y = q := fun e => by
    rcases e with e | e | e
    · exact .inl e
    · exact .inr e
    · exact absurd e (lb0 _)
  refine ⟨⟨r0, q0, fun y hy => absurd hy (tx0 y), fun y hy => absurd hy (tx0 y)⟩, ⟨r1, q1, fun y hy => absurd hy (tx0 y), fun y hy => absurd hy (tx0 y)⟩, by omega, by omega, fun y hy => absurd hy (lb0 y), fun y hy => absurd hy (tx0 y), fun y hy => absurd hy (tx0 y), fun y hy => ?_⟩
  rcases hy with hy | hy <;> rcases wr hy with rfl | rfl <;> omega
theorem begun_ls (w : World) : Ls (begun w) (w.heap.size + 1 + 1) (w.heap.size + 1 + 1 + 1 + 1 + 1) w.heap.size (w.heap.size + 1) (w.heap.size + 1 + 1 + 1) (w.heap.size + 1 + 1 + 1 + 1) :=
  ⟨later (later (later (newest _ _ _ (by simp)) _) _) _, newest _ _ _ (by simp)⟩
theorem Ls.swapped {W W' : World} {b d g0 g1 q0 q1 : Nat} (h : Ls W b d g0 g1 q0 q1) (hb : Below W.heap.size W W') : Ls W' b d g0 g1 q0 q1 :=
  ⟨(hb.block b (Array.getElem?_eq_some_iff.1 h.1).1).trans h.1, (hb.block d (Array.getElem?_eq_some_iff.1 h.2).1).trans h.2⟩
theorem mod3 (x : Int) : x.tmod 3 = -2 ∨ x.tmod 3 = -1 ∨ x.tmod 3 = 0 ∨ x.tmod 3 = 1 ∨ x.tmod 3 = 2 := by
  rcases Int.le_total 0 x with h | h
  · rw [Int.tmod_eq_emod_of_nonneg h]; omega
  · have h2 := Int.neg_tmod x 3
    rw [Int.tmod_eq_emod_of_nonneg (by omega)] at h2
    omega
/-- What stands between two steps. -/
def Inv (w : World) (q0 g1 q1 b d : Nat) (V : World) : Prop := (∃ s t, Two w.heap.size V w.heap.size q0 g1 q1 s t) ∧ Ls V b d w.heap.size g1 q0 q1 ∧ Below w.heap.size w V
theorem Inv.below {w V V' : World} {q0 g1 q1 b d : Nat} (h : Inv w q0 g1 q1 b d V) (hb : Below V.heap.size V V') : Inv w q0 g1 q1 b d V' := by
  obtain ⟨⟨s, t, h1⟩, h2, h3⟩ := h
  exact ⟨⟨s, t, h1.below hb⟩, h2.swapped hb, bt h3 hb⟩
set_option maxRecDepth 100000 in
set_option maxHeartbeats 16000000 in
theorem plays_any (A : Option Addr) (cap n : Nat) (L : List Sp) (R : List Sl) (w : World) (hn : (n : Int) ≤ 1099511627776) (hA : Ro.RowsIn KS w A n L R) (hne : ∀ k, Neat (R.getD k sl0)) (hm : ∀ k, MildC 1099511627776 (L.getD k sp0).card ∧ (L.getD k sp0).pack.length ≤ 1099511627776) :
    Calls Try.prog 6 #[.slice A n cap] w fun e w' => e = .returned (.bool true) ∧ Below w.heap.size w w' := by
  have HA := Lib.hid hA
  have HNE := Lib.hid hne
  have HM := Lib.hid hm
  have HT0 := Lib.hid (begun_two w)
  have HL0 := Lib.hid (begun_ls w)
  have HB0 := Lib.hid (begun_below w)
  clear hA hne hm
  go_enter Try.func6, Try.ntmps6
  go_wp2_with fail
  refine (new_any _).mono ?_
  rintro e w1 ⟨rfl, rfl⟩
  go_wp2_with fail
  refine (new_any _).mono ?_
  rintro e w2 ⟨rfl, rfl⟩
  go_wp2_with fail
  unfold begun at HT0 HL0 HB0
  generalize hW : World.alloc (World.alloc _ _) _ = W at HT0 HL0 HB0 ⊢
  clear hW
  generalize hg1 : w.heap.size + 1 = g1 at HT0 HL0 ⊢
  generalize hb : g1 + 1 = b at HT0 HL0 ⊢
  generalize hq0 : b + 1 = q0 at HT0 HL0 ⊢
  generalize hq1 : q0 + 1 = q1 at HT0 HL0 ⊢
  generalize hd : q1 + 1 = d at HL0 ⊢
  clear hg1 hb hq0 hq1 hd
  have HI0 : Hid (Inv w q0 g1 q1 b d W) := Lib.hid ⟨⟨_, _, HT0.out⟩, HL0.out, HB0.out⟩
  clear HT0 HL0 HB0
  go_loopw [5] (fun v5 wx => ∃ k : Nat, k ≤ n ∧ k ≤ 400 ∧ v5 = .int .i64 (k : Int) ∧ Inv w q0 g1 q1 b d wx) (fun v5 _ => n - (RowKit.intOf v5).toNat)
  case atStart => exact ⟨0, by omega, by omega, rfl, HI0.out⟩
  case round =>
    clear HI0
    obtain ⟨k, hk, hk4, rfl, hinv⟩ := hrel
    have HI := Lib.hid hinv
    clear hinv
    by_cases hlt : k < n ∧ k < 400
    · obtain ⟨hln, hl4⟩ := hlt
      have i1 : (0 : Int) ≤ (k : Int) := by omega
      have i2 : (k : Int) < (n : Int) := by omega
      have i3 : (k : Int) < 400 := by omega
      obtain ⟨ba, o, rfl, hba, hc, hrl, hrc⟩ : ∃ ba o, A = some ⟨ba, o, none⟩ ∧ ba < w.heap.size ∧ (∀ j u, (KS.row (L.getD k sp0, R.getD k sl0))[j]? = some u → w.cell? ⟨ba, o + k * 12 + j, none⟩ = some u) ∧ (R.getD k sl0).2.1 = (L.getD k sp0).card.compat.length ∧ CellsIn w 1 (R.getD k sl0).1 (R.getD k sl0).2.1 (strs (L.getD k sp0).card.compat) := HA.out.at hln
      have hm := HM.out k
      have hne := HNE.out k
      generalize L.getD k sp0 = p at hc hrl hrc hm
      generalize R.getD k sl0 = r at hc hrl hrc hne
      have hlt : 0 < r.2.1 → ∀ a, r.1 = some a → a.block < w.heap.size := fun hp a ha => by
        obtain ⟨b', o', hA', hb', _⟩ := hrc.at hp
        rw [hA'] at ha
        injection ha with ha
        rw [← ha]
        exact hb'
      have HST : Hid (∀ V, Inv w q0 g1 q1 b d V → Calls Try.prog 31 #[.pointer (some ⟨w.heap.size, 0, none⟩), .pointer (some ⟨q0, 0, none⟩), spV p r] V fun e w' => e = .returned (.bool true) ∧ Inv w q0 g1 q1 b d w') :=
        Lib.hid (fun V ⟨⟨s, t, h1⟩, h2, h3⟩ => (step_any h1 h3.size h2 p r hm.1 hm.2 hrl hne (hrc.below h3) hlt).mono fun e w' ⟨e1, ⟨s', e2⟩, e3, e4⟩ => ⟨e1, ⟨s', t, e2⟩, e3, h3.trans e4⟩)
      have HSU : Hid (∀ V, Inv w q0 g1 q1 b d V → Calls Try.prog 31 #[.pointer (some ⟨g1, 0, none⟩), .pointer (some ⟨q1, 0, none⟩), spV p r] V fun e w' => e = .returned (.bool true) ∧ Inv w q0 g1 q1 b d w') :=
        Lib.hid (fun V ⟨⟨s, t, h1⟩, h2, h3⟩ => (step_any h1.swap h3.size h2 p r hm.1 hm.2 hrl hne (hrc.below h3) hlt).mono fun e w' ⟨e1, ⟨s', e2⟩, e3, e4⟩ => ⟨e1, ⟨s, s', e2.swap⟩, e3, h3.trans e4⟩)
      have HSN : Hid (∀ V, Inv w q0 g1 q1 b d V → Calls Try.prog 31 #[.pointer none, .pointer none, spV p r] V fun e w' => e = .returned (.bool true) ∧ Inv w q0 g1 q1 b d w') :=
        Lib.hid (fun V hV => (nil_any p r V hm.1 hrl hne (hrc.below hV.2.2)).mono fun e w' ⟨e1, e2⟩ => ⟨e1, hV.below e2⟩)
      obtain ⟨who, kind, card, pack, init, sum⟩ := p
      obtain ⟨ra, rn, rc⟩ := r
      have c0 : w.cell? ⟨ba, o + k * 12, none⟩ = some (.int .i64 who) := hc 0 _ rfl
      have c1 : w.cell? ⟨ba, o + k * 12 + 1, none⟩ = some (.int .i64 kind) := hc 1 _ rfl
      have c2 : w.cell? ⟨ba, o + k * 12 + 2, none⟩ = some (.string (str card.name)) := hc 2 _ rfl
      have c3 : w.cell? ⟨ba, o + k * 12 + 3, none⟩ = some (.string (str card.fam)) := hc 3 _ rfl
      have c4 : w.cell? ⟨ba, o + k * 12 + 4, none⟩ = some (.int .u8 card.level) := hc 4 _ rfl
      have c5 : w.cell? ⟨ba, o + k * 12 + 5, none⟩ = some (.slice ra rn rc) := hc 5 _ rfl
      have c6 : w.cell? ⟨ba, o + k * 12 + 6, none⟩ = some (.int .i8 card.score) := hc 6 _ rfl
      have c7 : w.cell? ⟨ba, o + k * 12 + 7, none⟩ = some (.string (str card.quirk)) := hc 7 _ rfl
      have c8 : w.cell? ⟨ba, o + k * 12 + 8, none⟩ = some (.int .i16 card.entry) := hc 8 _ rfl
      have c9 : w.cell? ⟨ba, o + k * 12 + 9, none⟩ = some (.string (str pack)) := hc 9 _ rfl
      have c10 : w.cell? ⟨ba, o + k * 12 + 10, none⟩ = some (.int .i64 init) := hc 10 _ rfl
      have c11 : w.cell? ⟨ba, o + k * 12 + 11, none⟩ = some (.int .i64 sum) := hc 11 _ rfl
      have hm3 := mod3 who
      have HC0 : Hid (∀ V, Inv w q0 g1 q1 b d V → V.cell? ⟨b, 0, none⟩ = some (.pointer (some ⟨w.heap.size, 0, none⟩)) ∧ V.cell? ⟨d, 0, none⟩ = some (.pointer (some ⟨q0, 0, none⟩)) ∧ V.cell? ⟨ba, o + k * 12, none⟩ = some (.int .i64 who) ∧ V.cell? ⟨ba, o + k * 12 + 1, none⟩ = some (.int .i64 kind) ∧ V.cell? ⟨ba, o + k * 12 + 2, none⟩ = some (.string (str card.name)) ∧ V.cell? ⟨ba, o + k * 12 + 3, none⟩ = some (.string (str card.fam)) ∧ V.cell? ⟨ba, o + k * 12 + 4, none⟩ = some (.int .u8 card.level) ∧ V.cell? ⟨ba, o + k * 12 + 5, none⟩ = some (.slice ra rn rc) ∧ V.cell? ⟨ba, o + k * 12 + 6, none⟩ = some (.int .i8 card.score) ∧ V.cell? ⟨ba, o + k * 12 + 7, none⟩ = some (.string (str card.quirk)) ∧ V.cell? ⟨ba, o + k * 12 + 8, none⟩ = some (.int .i16 card.entry) ∧ V.cell? ⟨ba, o + k * 12 + 9, none⟩ = some (.string (str pack)) ∧ V.cell? ⟨ba, o + k * 12 + 10, none⟩ = some (.int .i64 init) ∧ V.cell? ⟨ba, o + k * 12 + 11, none⟩ = some (.int .i64 sum) ∧ Inv w q0 g1 q1 b d V) := Lib.hid (fun V hV => ⟨(Lib.cell_of_heap hV.2.1.1 0).trans (by simp), (Lib.cell_of_heap hV.2.1.2 0).trans (by simp), (World.cell?_of_block (hV.2.2.block ba hba)).trans c0, (World.cell?_of_block (hV.2.2.block ba hba)).trans c1, (World.cell?_of_block (hV.2.2.block ba hba)).trans c2, (World.cell?_of_block (hV.2.2.block ba hba)).trans c3, (World.cell?_of_block (hV.2.2.block ba hba)).trans c4, (World.cell?_of_block (hV.2.2.block ba hba)).trans c5, (World.cell?_of_block (hV.2.2.block ba hba)).trans c6, (World.cell?_of_block (hV.2.2.block ba hba)).trans c7, (World.cell?_of_block (hV.2.2.block ba hba)).trans c8, (World.cell?_of_block (hV.2.2.block ba hba)).trans c9, (World.cell?_of_block (hV.2.2.block ba hba)).trans c10, (World.cell?_of_block (hV.2.2.block ba hba)).trans c11, hV⟩)
      have HC1 : Hid (∀ V, Inv w q0 g1 q1 b d V → V.cell? ⟨b, 1, none⟩ = some (.pointer (some ⟨g1, 0, none⟩)) ∧ V.cell? ⟨d, 1, none⟩ = some (.pointer (some ⟨q1, 0, none⟩)) ∧ V.cell? ⟨ba, o + k * 12, none⟩ = some (.int .i64 who) ∧ V.cell? ⟨ba, o + k * 12 + 1, none⟩ = some (.int .i64 kind) ∧ V.cell? ⟨ba, o + k * 12 + 2, none⟩ = some (.string (str card.name)) ∧ V.cell? ⟨ba, o + k * 12 + 3, none⟩ = some (.string (str card.fam)) ∧ V.cell? ⟨ba, o + k * 12 + 4, none⟩ = some (.int .u8 card.level) ∧ V.cell? ⟨ba, o + k * 12 + 5, none⟩ = some (.slice ra rn rc) ∧ V.cell? ⟨ba, o + k * 12 + 6, none⟩ = some (.int .i8 card.score) ∧ V.cell? ⟨ba, o + k * 12 + 7, none⟩ = some (.string (str card.quirk)) ∧ V.cell? ⟨ba, o + k * 12 + 8, none⟩ = some (.int .i16 card.entry) ∧ V.cell? ⟨ba, o + k * 12 + 9, none⟩ = some (.string (str pack)) ∧ V.cell? ⟨ba, o + k * 12 + 10, none⟩ = some (.int .i64 init) ∧ V.cell? ⟨ba, o + k * 12 + 11, none⟩ = some (.int .i64 sum) ∧ Inv w q0 g1 q1 b d V) := Lib.hid (fun V hV => ⟨(Lib.cell_of_heap hV.2.1.1 1).trans (by simp), (Lib.cell_of_heap hV.2.1.2 1).trans (by simp), (World.cell?_of_block (hV.2.2.block ba hba)).trans c0, (World.cell?_of_block (hV.2.2.block ba hba)).trans c1, (World.cell?_of_block (hV.2.2.block ba hba)).trans c2, (World.cell?_of_block (hV.2.2.block ba hba)).trans c3, (World.cell?_of_block (hV.2.2.block ba hba)).trans c4, (World.cell?_of_block (hV.2.2.block ba hba)).trans c5, (World.cell?_of_block (hV.2.2.block ba hba)).trans c6, (World.cell?_of_block (hV.2.2.block ba hba)).trans c7, (World.cell?_of_block (hV.2.2.block ba hba)).trans c8, (World.cell?_of_block (hV.2.2.block ba hba)).trans c9, (World.cell?_of_block (hV.2.2.block ba hba)).trans c10, (World.cell?_of_block (hV.2.2.block ba hba)).trans c11, hV⟩)
      clear hc hrl hrc hm hne hlt HM HNE HA c0 c1 c2 c3 c4 c5 c6 c7 c8 c9 c10 c11
      unfold spV spCells at HST HSU HSN
      simp only [slV] at HST HSU HSN
      obtain ⟨_, _, c0, c1, c2, c3, c4, c5, c6, c7, c8, c9, c10, c11, _⟩ := HC0.out wr HI.out
      rcases hm3 with hm3 | hm3 | hm3 | hm3 | hm3
      · go_wp2_with fail
        refine (HSN.out wr HI.out).mono ?_
        clear HST HSU HSN HC0 HC1 c0 c1 c2 c3 c4 c5 c6 c7 c8 c9 c10 c11
        rintro e w5 ⟨rfl, hi5⟩
        have HI5 := Lib.hid hi5
        clear hi5 HI
        go_wp2_with fail
        go_roundw
        case rel => exact ⟨k + 1, by omega, by omega, by go_num, HI5.out⟩
        case measure => simp [RowKit.intOf]; omega
      · go_wp2_with fail
        clear c0 c1 c2 c3 c4 c5 c6 c7 c8 c9 c10 c11
        refine wp_region_noPanic ?_
        refine wp_region_held_drew (S := fun V => V.cell? ⟨b, 1, none⟩ = some (.pointer (some ⟨g1, 0, none⟩)) ∧ V.cell? ⟨d, 1, none⟩ = some (.pointer (some ⟨q1, 0, none⟩)) ∧ V.cell? ⟨ba, o + k * 12, none⟩ = some (.int .i64 who) ∧ V.cell? ⟨ba, o + k * 12 + 1, none⟩ = some (.int .i64 kind) ∧ V.cell? ⟨ba, o + k * 12 + 2, none⟩ = some (.string (str card.name)) ∧ V.cell? ⟨ba, o + k * 12 + 3, none⟩ = some (.string (str card.fam)) ∧ V.cell? ⟨ba, o + k * 12 + 4, none⟩ = some (.int .u8 card.level) ∧ V.cell? ⟨ba, o + k * 12 + 5, none⟩ = some (.slice ra rn rc) ∧ V.cell? ⟨ba, o + k * 12 + 6, none⟩ = some (.int .i8 card.score) ∧ V.cell? ⟨ba, o + k * 12 + 7, none⟩ = some (.string (str card.quirk)) ∧ V.cell? ⟨ba, o + k * 12 + 8, none⟩ = some (.int .i16 card.entry) ∧ V.cell? ⟨ba, o + k * 12 + 9, none⟩ = some (.string (str pack)) ∧ V.cell? ⟨ba, o + k * 12 + 10, none⟩ = some (.int .i64 init) ∧ V.cell? ⟨ba, o + k * 12 + 11, none⟩ = some (.int .i64 sum) ∧ Inv w q0 g1 q1 b d V) (by kernel_rfl) (HC1.out _ (HI.out.below (below_dr (Below.refl _ _) 1))) (fun hHeld => ?_)
        first | (refine skipH (i := 0) (dst := some 53) rfl rfl (by kernel_rfl) (by kernel_rfl) (by kernel_rfl) (fun _ _ _ h => h) (by rfl) hHeld ?_) | (refine' takeH (i := 0) (dst := some 53) (v := _) rfl rfl (by kernel_rfl) (by kernel_rfl) (by kernel_rfl) (fun _ _ _ h => h) (by rfl) ?hy hHeld ?_; case hy => (intro w hSw; clear hSw; (first | done | go_simp); try with_reducible rfl)) | fail
        try simp only [Act.put, List.setIfInBounds_toArray, List.set_cons_zero, List.set_cons_succ]
        first | (refine skipH (i := 1) (dst := some 54) rfl rfl (by kernel_rfl) (by kernel_rfl) (by kernel_rfl) (fun _ _ _ h => h) (by rfl) hHeld ?_) | (refine' takeH (i := 1) (dst := some 54) (v := _) rfl rfl (by kernel_rfl) (by kernel_rfl) (by kernel_rfl) (fun _ _ _ h => h) (by rfl) ?hy hHeld ?_; case hy => (intro w hSw; clear hSw; (first | done | go_simp); try with_reducible rfl)) | fail
        try simp only [Act.put, List.setIfInBounds_toArray, List.set_cons_zero, List.set_cons_succ]
        first | (refine skipH (i := 2) (dst := some 55) rfl rfl (by kernel_rfl) (by kernel_rfl) (by kernel_rfl) (fun _ _ _ h => h) (by rfl) hHeld ?_) | (refine' takeH (i := 2) (dst := some 55) (v := _) rfl rfl (by kernel_rfl) (by kernel_rfl) (by kernel_rfl) (fun _ _ _ h => h) (by rfl) ?hy hHeld ?_; case hy => (intro w hSw; clear hSw; (first | done | go_simp); try with_reducible rfl)) | fail
        try simp only [Act.put, List.setIfInBounds_toArray, List.set_cons_zero, List.set_cons_succ]
        first | (refine skipH (i := 3) (dst := some 56) rfl rfl (by kernel_rfl) (by kernel_rfl) (by kernel_rfl) (fun _ _ _ h => h) (by rfl) hHeld ?_) | (refine' takeH (i := 3) (dst := some 56) (v := _) rfl rfl (by kernel_rfl) (by kernel_rfl) (by kernel_rfl) (fun _ _ _ h => h) (by rfl) ?hy hHeld ?_; case hy => (intro w hSw; obtain ⟨_, _, _, _, _, _, _, _, _, _, _, _, _, _, _⟩ := hSw; (first | done | go_simp); try with_reducible rfl)) | fail
        try simp only [Act.put, List.setIfInBounds_toArray, List.set_cons_zero, List.set_cons_succ]
        first | (refine skipH (i := 4) (dst := some 57) rfl rfl (by kernel_rfl) (by kernel_rfl) (by kernel_rfl) (fun _ _ _ h => h) (by rfl) hHeld ?_) | (refine' takeH (i := 4) (dst := some 57) (v := _) rfl rfl (by kernel_rfl) (by kernel_rfl) (by kernel_rfl) (fun _ _ _ h => h) (by rfl) ?hy hHeld ?_; case hy => (intro w hSw; clear hSw; (first | done | go_simp); try with_reducible rfl)) | fail
        try simp only [Act.put, List.setIfInBounds_toArray, List.set_cons_zero, List.set_cons_succ]
        first | (refine skipH (i := 5) (dst := some 58) rfl rfl (by kernel_rfl) (by kernel_rfl) (by kernel_rfl) (fun _ _ _ h => h) (by rfl) hHeld ?_) | (refine' takeH (i := 5) (dst := some 58) (v := _) rfl rfl (by kernel_rfl) (by kernel_rfl) (by kernel_rfl) (fun _ _ _ h => h) (by rfl) ?hy hHeld ?_; case hy => (intro w hSw; clear hSw; (first | done | go_simp); try with_reducible rfl)) | fail
        try simp only [Act.put, List.setIfInBounds_toArray, List.set_cons_zero, List.set_cons_succ]
        first | (refine skipH (i := 6) (dst := some 59) rfl rfl (by kernel_rfl) (by kernel_rfl) (by kernel_rfl) (fun _ _ _ h => h) (by rfl) hHeld ?_) | (refine' takeH (i := 6) (dst := some 59) (v := _) rfl rfl (by kernel_rfl) (by kernel_rfl) (by kernel_rfl) (fun _ _ _ h => h) (by rfl) ?hy hHeld ?_; case hy => (intro w hSw; clear hSw; (first | done | go_simp); try with_reducible rfl)) | fail
        try simp only [Act.put, List.setIfInBounds_toArray, List.set_cons_zero, List.set_cons_succ]
        first | (refine skipH (i := 7) (dst := some 60) rfl rfl (by kernel_rfl) (by kernel_rfl) (by kernel_rfl) (fun _ _ _ h => h) (by rfl) hHeld ?_) | (refine' takeH (i := 7) (dst := some 60) (v := _) rfl rfl (by kernel_rfl) (by kernel_rfl) (by kernel_rfl) (fun _ _ _ h => h) (by rfl) ?hy hHeld ?_; case hy => (intro w hSw; obtain ⟨_, _, _, _, _, _, _, _, _, _, _, _, _, _, _⟩ := hSw; (first | done | go_simp); try with_reducible rfl)) | fail
        try simp only [Act.put, List.setIfInBounds_toArray, List.set_cons_zero, List.set_cons_succ]
        first | (refine skipH (i := 8) (dst := some 61) rfl rfl (by kernel_rfl) (by kernel_rfl) (by kernel_rfl) (fun _ _ _ h => h) (by rfl) hHeld ?_) | (refine' takeH (i := 8) (dst := some 61) (v := _) rfl rfl (by kernel_rfl) (by kernel_rfl) (by kernel_rfl) (fun _ _ _ h => h) (by rfl) ?hy hHeld ?_; case hy => (intro w hSw; clear hSw; (first | done | go_simp); try with_reducible rfl)) | fail
        try simp only [Act.put, List.setIfInBounds_toArray, List.set_cons_zero, List.set_cons_succ]
        first | (refine skipH (i := 9) (dst := some 62) rfl rfl (by kernel_rfl) (by kernel_rfl) (by kernel_rfl) (fun _ _ _ h => h) (by rfl) hHeld ?_) | (refine' takeH (i := 9) (dst := some 62) (v := _) rfl rfl (by kernel_rfl) (by kernel_rfl) (by kernel_rfl) (fun _ _ _ h => h) (by rfl) ?hy hHeld ?_; case hy => (intro w hSw; clear hSw; (first | done | go_simp); try with_reducible rfl)) | fail
        try simp only [Act.put, List.setIfInBounds_toArray, List.set_cons_zero, List.set_cons_succ]
        first | (refine skipH (i := 10) (dst := some 63) rfl rfl (by kernel_rfl) (by kernel_rfl) (by kernel_rfl) (fun _ _ _ h => h) (by rfl) hHeld ?_) | (refine' takeH (i := 10) (dst := some 63) (v := _) rfl rfl (by kernel_rfl) (by kernel_rfl) (by kernel_rfl) (fun _ _ _ h => h) (by rfl) ?hy hHeld ?_; case hy => (intro w hSw; clear hSw; (first | done | go_simp); try with_reducible rfl)) | fail
        try simp only [Act.put, List.setIfInBounds_toArray, List.set_cons_zero, List.set_cons_succ]
        first | (refine skipH (i := 11) (dst := some 64) rfl rfl (by kernel_rfl) (by kernel_rfl) (by kernel_rfl) (fun _ _ _ h => h) (by rfl) hHeld ?_) | (refine' takeH (i := 11) (dst := some 64) (v := _) rfl rfl (by kernel_rfl) (by kernel_rfl) (by kernel_rfl) (fun _ _ _ h => h) (by rfl) ?hy hHeld ?_; case hy => (intro w hSw; obtain ⟨_, _, _, _, _, _, _, _, _, _, _, _, _, _, _⟩ := hSw; (first | done | go_simp); try with_reducible rfl)) | fail
        try simp only [Act.put, List.setIfInBounds_toArray, List.set_cons_zero, List.set_cons_succ]
        refine wpAnyH_ready (rs := [12]) (by kernel_rfl) (by simp) ?_
        refine AllReadyH.cons (i := 12) (o := ⟨some 65, .call _, _, _, _, _⟩) rfl (fun K hK => ?_) AllReadyH.nil
        go_simp
        refine (HSU.out _ hHeld.2.2.2.2.2.2.2.2.2.2.2.2.2.2).mono ?_
        rintro e w5 ⟨rfl, hi5⟩
        have hH := HC1.out w5 hi5
        clear hi5
        refine hK.out _ _ hH (fun _ => ?_)
        clear hK K hHeld
        have hHeld := hH
        clear hH
        try simp only [Act.put, List.setIfInBounds_toArray, List.set_cons_zero, List.set_cons_succ]
        first | (refine skipH (i := 13) (dst := some 66) rfl rfl (by kernel_rfl) (by kernel_rfl) (by kernel_rfl) (fun _ _ _ h => h) (by rfl) hHeld ?_) | (refine' takeH (i := 13) (dst := some 66) (v := _) rfl rfl (by kernel_rfl) (by kernel_rfl) (by kernel_rfl) (fun _ _ _ h => h) (by rfl) ?hy hHeld ?_; case hy => (intro w hSw; clear hSw; (first | done | go_simp); try with_reducible rfl)) | fail
        try simp only [Act.put, List.setIfInBounds_toArray, List.set_cons_zero, List.set_cons_succ]
        refine wpAnyH_done (by kernel_rfl) (NoPanic.normal ?_) _
        have HI5 := Lib.hid hHeld.2.2.2.2.2.2.2.2.2.2.2.2.2.2
        clear hHeld HI HST HSU HSN HC0 HC1
        go_wp2_with fail
        go_roundw
        case rel => exact ⟨k + 1, by omega, by omega, by go_num, HI5.out⟩
        case measure => simp [RowKit.intOf]; omega
      · go_wp2_with fail
        clear c0 c1 c2 c3 c4 c5 c6 c7 c8 c9 c10 c11
        refine wp_region_noPanic ?_
        refine wp_region_held_drew (S := fun V => V.cell? ⟨b, 0, none⟩ = some (.pointer (some ⟨w.heap.size, 0, none⟩)) ∧ V.cell? ⟨d, 0, none⟩ = some (.pointer (some ⟨q0, 0, none⟩)) ∧ V.cell? ⟨ba, o + k * 12, none⟩ = some (.int .i64 who) ∧ V.cell? ⟨ba, o + k * 12 + 1, none⟩ = some (.int .i64 kind) ∧ V.cell? ⟨ba, o + k * 12 + 2, none⟩ = some (.string (str card.name)) ∧ V.cell? ⟨ba, o + k * 12 + 3, none⟩ = some (.string (str card.fam)) ∧ V.cell? ⟨ba, o + k * 12 + 4, none⟩ = some (.int .u8 card.level) ∧ V.cell? ⟨ba, o + k * 12 + 5, none⟩ = some (.slice ra rn rc) ∧ V.cell? ⟨ba, o + k * 12 + 6, none⟩ = some (.int .i8 card.score) ∧ V.cell? ⟨ba, o + k * 12 + 7, none⟩ = some (.string (str card.quirk)) ∧ V.cell? ⟨ba, o + k * 12 + 8, none⟩ = some (.int .i16 card.entry) ∧ V.cell? ⟨ba, o + k * 12 + 9, none⟩ = some (.string (str pack)) ∧ V.cell? ⟨ba, o + k * 12 + 10, none⟩ = some (.int .i64 init) ∧ V.cell? ⟨ba, o + k * 12 + 11, none⟩ = some (.int .i64 sum) ∧ Inv w q0 g1 q1 b d V) (by kernel_rfl) (HC0.out _ (HI.out.below (below_dr (Below.refl _ _) 1))) (fun hHeld => ?_)
        first | (refine skipH (i := 0) (dst := some 53) rfl rfl (by kernel_rfl) (by kernel_rfl) (by kernel_rfl) (fun _ _ _ h => h) (by rfl) hHeld ?_) | (refine' takeH (i := 0) (dst := some 53) (v := _) rfl rfl (by kernel_rfl) (by kernel_rfl) (by kernel_rfl) (fun _ _ _ h => h) (by rfl) ?hy hHeld ?_; case hy => (intro w hSw; clear hSw; (first | done | go_simp); try with_reducible rfl)) | fail
        try simp only [Act.put, List.setIfInBounds_toArray, List.set_cons_zero, List.set_cons_succ]
        first | (refine skipH (i := 1) (dst := some 54) rfl rfl (by kernel_rfl) (by kernel_rfl) (by kernel_rfl) (fun _ _ _ h => h) (by rfl) hHeld ?_) | (refine' takeH (i := 1) (dst := some 54) (v := _) rfl rfl (by kernel_rfl) (by kernel_rfl) (by kernel_rfl) (fun _ _ _ h => h) (by rfl) ?hy hHeld ?_; case hy => (intro w hSw; clear hSw; (first | done | go_simp); try with_reducible rfl)) | fail
        try simp only [Act.put, List.setIfInBounds_toArray, List.set_cons_zero, List.set_cons_succ]
        first | (refine skipH (i := 2) (dst := some 55) rfl rfl (by kernel_rfl) (by kernel_rfl) (by kernel_rfl) (fun _ _ _ h => h) (by rfl) hHeld ?_) | (refine' takeH (i := 2) (dst := some 55) (v := _) rfl rfl (by kernel_rfl) (by kernel_rfl) (by kernel_rfl) (fun _ _ _ h => h) (by rfl) ?hy hHeld ?_; case hy => (intro w hSw; clear hSw; (first | done | go_simp); try with_reducible rfl)) | fail
        try simp only [Act.put, List.setIfInBounds_toArray, List.set_cons_zero, List.set_cons_succ]
        first | (refine skipH (i := 3) (dst := some 56) rfl rfl (by kernel_rfl) (by kernel_rfl) (by kernel_rfl) (fun _ _ _ h => h) (by rfl) hHeld ?_) | (refine' takeH (i := 3) (dst := some 56) (v := _) rfl rfl (by kernel_rfl) (by kernel_rfl) (by kernel_rfl) (fun _ _ _ h => h) (by rfl) ?hy hHeld ?_; case hy => (intro w hSw; obtain ⟨_, _, _, _, _, _, _, _, _, _, _, _, _, _, _⟩ := hSw; (first | done | go_simp); try with_reducible rfl)) | fail
        try simp only [Act.put, List.setIfInBounds_toArray, List.set_cons_zero, List.set_cons_succ]
        first | (refine skipH (i := 4) (dst := some 57) rfl rfl (by kernel_rfl) (by kernel_rfl) (by kernel_rfl) (fun _ _ _ h => h) (by rfl) hHeld ?_) | (refine' takeH (i := 4) (dst := some 57) (v := _) rfl rfl (by kernel_rfl) (by kernel_rfl) (by kernel_rfl) (fun _ _ _ h => h) (by rfl) ?hy hHeld ?_; case hy => (intro w hSw; clear hSw; (first | done | go_simp); try with_reducible rfl)) | fail
        try simp only [Act.put, List.setIfInBounds_toArray, List.set_cons_zero, List.set_cons_succ]
        first | (refine skipH (i := 5) (dst := some 58) rfl rfl (by kernel_rfl) (by kernel_rfl) (by kernel_rfl) (fun _ _ _ h => h) (by rfl) hHeld ?_) | (refine' takeH (i := 5) (dst := some 58) (v := _) rfl rfl (by kernel_rfl) (by kernel_rfl) (by kernel_rfl) (fun _ _ _ h => h) (by rfl) ?hy hHeld ?_; case hy => (intro w hSw; clear hSw; (first | done | go_simp); try with_reducible rfl)) | fail
        try simp only [Act.put, List.setIfInBounds_toArray, List.set_cons_zero, List.set_cons_succ]
        first | (refine skipH (i := 6) (dst := some 59) rfl rfl (by kernel_rfl) (by kernel_rfl) (by kernel_rfl) (fun _ _ _ h => h) (by rfl) hHeld ?_) | (refine' takeH (i := 6) (dst := some 59) (v := _) rfl rfl (by kernel_rfl) (by kernel_rfl) (by kernel_rfl) (fun _ _ _ h => h) (by rfl) ?hy hHeld ?_; case hy => (intro w hSw; clear hSw; (first | done | go_simp); try with_reducible rfl)) | fail
        try simp only [Act.put, List.setIfInBounds_toArray, List.set_cons_zero, List.set_cons_succ]
        first | (refine skipH (i := 7) (dst := some 60) rfl rfl (by kernel_rfl) (by kernel_rfl) (by kernel_rfl) (fun _ _ _ h => h) (by rfl) hHeld ?_) | (refine' takeH (i := 7) (dst := some 60) (v := _) rfl rfl (by kernel_rfl) (by kernel_rfl) (by kernel_rfl) (fun _ _ _ h => h) (by rfl) ?hy hHeld ?_; case hy => (intro w hSw; obtain ⟨_, _, _, _, _, _, _, _, _, _, _, _, _, _, _⟩ := hSw; (first | done | go_simp); try with_reducible rfl)) | fail
        try simp only [Act.put, List.setIfInBounds_toArray, List.set_cons_zero, List.set_cons_succ]
        first | (refine skipH (i := 8) (dst := some 61) rfl rfl (by kernel_rfl) (by kernel_rfl) (by kernel_rfl) (fun _ _ _ h => h) (by rfl) hHeld ?_) | (refine' takeH (i := 8) (dst := some 61) (v := _) rfl rfl (by kernel_rfl) (by kernel_rfl) (by kernel_rfl) (fun _ _ _ h => h) (by rfl) ?hy hHeld ?_; case hy => (intro w hSw; clear hSw; (first | done | go_simp); try with_reducible rfl)) | fail
        try simp only [Act.put, List.setIfInBounds_toArray, List.set_cons_zero, List.set_cons_succ]
        first | (refine skipH (i := 9) (dst := some 62) rfl rfl (by kernel_rfl) (by kernel_rfl) (by kernel_rfl) (fun _ _ _ h => h) (by rfl) hHeld ?_) | (refine' takeH (i := 9) (dst := some 62) (v := _) rfl rfl (by kernel_rfl) (by kernel_rfl) (by kernel_rfl) (fun _ _ _ h => h) (by rfl) ?hy hHeld ?_; case hy => (intro w hSw; clear hSw; (first | done | go_simp); try with_reducible rfl)) | fail
        try simp only [Act.put, List.setIfInBounds_toArray, List.set_cons_zero, List.set_cons_succ]
        first | (refine skipH (i := 10) (dst := some 63) rfl rfl (by kernel_rfl) (by kernel_rfl) (by kernel_rfl) (fun _ _ _ h => h) (by rfl) hHeld ?_) | (refine' takeH (i := 10) (dst := some 63) (v := _) rfl rfl (by kernel_rfl) (by kernel_rfl) (by kernel_rfl) (fun _ _ _ h => h) (by rfl) ?hy hHeld ?_; case hy => (intro w hSw; clear hSw; (first | done | go_simp); try with_reducible rfl)) | fail
        try simp only [Act.put, List.setIfInBounds_toArray, List.set_cons_zero, List.set_cons_succ]
        first | (refine skipH (i := 11) (dst := some 64) rfl rfl (by kernel_rfl) (by kernel_rfl) (by kernel_rfl) (fun _ _ _ h => h) (by rfl) hHeld ?_) | (refine' takeH (i := 11) (dst := some 64) (v := _) rfl rfl (by kernel_rfl) (by kernel_rfl) (by kernel_rfl) (fun _ _ _ h => h) (by rfl) ?hy hHeld ?_; case hy => (intro w hSw; obtain ⟨_, _, _, _, _, _, _, _, _, _, _, _, _, _, _⟩ := hSw; (first | done | go_simp); try with_reducible rfl)) | fail
        try simp only [Act.put, List.setIfInBounds_toArray, List.set_cons_zero, List.set_cons_succ]
        refine wpAnyH_ready (rs := [12]) (by kernel_rfl) (by simp) ?_
        refine AllReadyH.cons (i := 12) (o := ⟨some 65, .call _, _, _, _, _⟩) rfl (fun K hK => ?_) AllReadyH.nil
        go_simp
        refine (HST.out _ hHeld.2.2.2.2.2.2.2.2.2.2.2.2.2.2).mono ?_
        rintro e w5 ⟨rfl, hi5⟩
        have hH := HC0.out w5 hi5
        clear hi5
        refine hK.out _ _ hH (fun _ => ?_)
        clear hK K hHeld
        have hHeld := hH
        clear hH
        try simp only [Act.put, List.setIfInBounds_toArray, List.set_cons_zero, List.set_cons_succ]
        first | (refine skipH (i := 13) (dst := some 66) rfl rfl (by kernel_rfl) (by kernel_rfl) (by kernel_rfl) (fun _ _ _ h => h) (by rfl) hHeld ?_) | (refine' takeH (i := 13) (dst := some 66) (v := _) rfl rfl (by kernel_rfl) (by kernel_rfl) (by kernel_rfl) (fun _ _ _ h => h) (by rfl) ?hy hHeld ?_; case hy => (intro w hSw; clear hSw; (first | done | go_simp); try with_reducible rfl)) | fail
        try simp only [Act.put, List.setIfInBounds_toArray, List.set_cons_zero, List.set_cons_succ]
        refine wpAnyH_done (by kernel_rfl) (NoPanic.normal ?_) _
        have HI5 := Lib.hid hHeld.2.2.2.2.2.2.2.2.2.2.2.2.2.2
        clear hHeld HI HST HSU HSN HC0 HC1
        go_wp2_with fail
        go_roundw
        case rel => exact ⟨k + 1, by omega, by omega, by go_num, HI5.out⟩
        case measure => simp [RowKit.intOf]; omega
      · go_wp2_with fail
        clear c0 c1 c2 c3 c4 c5 c6 c7 c8 c9 c10 c11
        refine wp_region_noPanic ?_
        refine wp_region_held_drew (S := fun V => V.cell? ⟨b, 1, none⟩ = some (.pointer (some ⟨g1, 0, none⟩)) ∧ V.cell? ⟨d, 1, none⟩ = some (.pointer (some ⟨q1, 0, none⟩)) ∧ V.cell? ⟨ba, o + k * 12, none⟩ = some (.int .i64 who) ∧ V.cell? ⟨ba, o + k * 12 + 1, none⟩ = some (.int .i64 kind) ∧ V.cell? ⟨ba, o + k * 12 + 2, none⟩ = some (.string (str card.name)) ∧ V.cell? ⟨ba, o + k * 12 + 3, none⟩ = some (.string (str card.fam)) ∧ V.cell? ⟨ba, o + k * 12 + 4, none⟩ = some (.int .u8 card.level) ∧ V.cell? ⟨ba, o + k * 12 + 5, none⟩ = some (.slice ra rn rc) ∧ V.cell? ⟨ba, o + k * 12 + 6, none⟩ = some (.int .i8 card.score) ∧ V.cell? ⟨ba, o + k * 12 + 7, none⟩ = some (.string (str card.quirk)) ∧ V.cell? ⟨ba, o + k * 12 + 8, none⟩ = some (.int .i16 card.entry) ∧ V.cell? ⟨ba, o + k * 12 + 9, none⟩ = some (.string (str pack)) ∧ V.cell? ⟨ba, o + k * 12 + 10, none⟩ = some (.int .i64 init) ∧ V.cell? ⟨ba, o + k * 12 + 11, none⟩ = some (.int .i64 sum) ∧ Inv w q0 g1 q1 b d V) (by kernel_rfl) (HC1.out _ (HI.out.below (below_dr (Below.refl _ _) 1))) (fun hHeld => ?_)
        first | (refine skipH (i := 0) (dst := some 53) rfl rfl (by kernel_rfl) (by kernel_rfl) (by kernel_rfl) (fun _ _ _ h => h) (by rfl) hHeld ?_) | (refine' takeH (i := 0) (dst := some 53) (v := _) rfl rfl (by kernel_rfl) (by kernel_rfl) (by kernel_rfl) (fun _ _ _ h => h) (by rfl) ?hy hHeld ?_; case hy => (intro w hSw; clear hSw; (first | done | go_simp); try with_reducible rfl)) | fail
        try simp only [Act.put, List.setIfInBounds_toArray, List.set_cons_zero, List.set_cons_succ]
        first | (refine skipH (i := 1) (dst := some 54) rfl rfl (by kernel_rfl) (by kernel_rfl) (by kernel_rfl) (fun _ _ _ h => h) (by rfl) hHeld ?_) | (refine' takeH (i := 1) (dst := some 54) (v := _) rfl rfl (by kernel_rfl) (by kernel_rfl) (by kernel_rfl) (fun _ _ _ h => h) (by rfl) ?hy hHeld ?_; case hy => (intro w hSw; clear hSw; (first | done | go_simp); try with_reducible rfl)) | fail
        try simp only [Act.put, List.setIfInBounds_toArray, List.set_cons_zero, List.set_cons_succ]
        first | (refine skipH (i := 2) (dst := some 55) rfl rfl (by kernel_rfl) (by kernel_rfl) (by kernel_rfl) (fun _ _ _ h => h) (by rfl) hHeld ?_) | (refine' takeH (i := 2) (dst := some 55) (v := _) rfl rfl (by kernel_rfl) (by kernel_rfl) (by kernel_rfl) (fun _ _ _ h => h) (by rfl) ?hy hHeld ?_; case hy => (intro w hSw; clear hSw; (first | done | go_simp); try with_reducible rfl)) | fail
        try simp only [Act.put, List.setIfInBounds_toArray, List.set_cons_zero, List.set_cons_succ]
        first | (refine skipH (i := 3) (dst := some 56) rfl rfl (by kernel_rfl) (by kernel_rfl) (by kernel_rfl) (fun _ _ _ h => h) (by rfl) hHeld ?_) | (refine' takeH (i := 3) (dst := some 56) (v := _) rfl rfl (by kernel_rfl) (by kernel_rfl) (by kernel_rfl) (fun _ _ _ h => h) (by rfl) ?hy hHeld ?_; case hy => (intro w hSw; obtain ⟨_, _, _, _, _, _, _, _, _, _, _, _, _, _, _⟩ := hSw; (first | done | go_simp); try with_reducible rfl)) | fail
        try simp only [Act.put, List.setIfInBounds_toArray, List.set_cons_zero, List.set_cons_succ]
        first | (refine skipH (i := 4) (dst := some 57) rfl rfl (by kernel_rfl) (by kernel_rfl) (by kernel_rfl) (fun _ _ _ h => h) (by rfl) hHeld ?_) | (refine' takeH (i := 4) (dst := some 57) (v := _) rfl rfl (by kernel_rfl) (by kernel_rfl) (by kernel_rfl) (fun _ _ _ h => h) (by rfl) ?hy hHeld ?_; case hy => (intro w hSw; clear hSw; (first | done | go_simp); try with_reducible rfl)) | fail
        try simp only [Act.put, List.setIfInBounds_toArray, List.set_cons_zero, List.set_cons_succ]
        first | (refine skipH (i := 5) (dst := some 58) rfl rfl (by kernel_rfl) (by kernel_rfl) (by kernel_rfl) (fun _ _ _ h => h) (by rfl) hHeld ?_) | (refine' takeH (i := 5) (dst := some 58) (v := _) rfl rfl (by kernel_rfl) (by kernel_rfl) (by kernel_rfl) (fun _ _ _ h => h) (by rfl) ?hy hHeld ?_; case hy => (intro w hSw; clear hSw; (first | done | go_simp); try with_reducible rfl)) | fail
        try simp only [Act.put, List.setIfInBounds_toArray, List.set_cons_zero, List.set_cons_succ]
        first | (refine skipH (i := 6) (dst := some 59) rfl rfl (by kernel_rfl) (by kernel_rfl) (by kernel_rfl) (fun _ _ _ h => h) (by rfl) hHeld ?_) | (refine' takeH (i := 6) (dst := some 59) (v := _) rfl rfl (by kernel_rfl) (by kernel_rfl) (by kernel_rfl) (fun _ _ _ h => h) (by rfl) ?hy hHeld ?_; case hy => (intro w hSw; clear hSw; (first | done | go_simp); try with_reducible rfl)) | fail
        try simp only [Act.put, List.setIfInBounds_toArray, List.set_cons_zero, List.set_cons_succ]
        first | (refine skipH (i := 7) (dst := some 60) rfl rfl (by kernel_rfl) (by kernel_rfl) (by kernel_rfl) (fun _ _ _ h => h) (by rfl) hHeld ?_) | (refine' takeH (i := 7) (dst := some 60) (v := _) rfl rfl (by kernel_rfl) (by kernel_rfl) (by kernel_rfl) (fun _ _ _ h => h) (by rfl) ?hy hHeld ?_; case hy => (intro w hSw; obtain ⟨_, _, _, _, _, _, _, _, _, _, _, _, _, _, _⟩ := hSw; (first | done | go_simp); try with_reducible rfl)) | fail
        try simp only [Act.put, List.setIfInBounds_toArray, List.set_cons_zero, List.set_cons_succ]
        first | (refine skipH (i := 8) (dst := some 61) rfl rfl (by kernel_rfl) (by kernel_rfl) (by kernel_rfl) (fun _ _ _ h => h) (by rfl) hHeld ?_) | (refine' takeH (i := 8) (dst := some 61) (v := _) rfl rfl (by kernel_rfl) (by kernel_rfl) (by kernel_rfl) (fun _ _ _ h => h) (by rfl) ?hy hHeld ?_; case hy => (intro w hSw; clear hSw; (first | done | go_simp); try with_reducible rfl)) | fail
        try simp only [Act.put, List.setIfInBounds_toArray, List.set_cons_zero, List.set_cons_succ]
        first | (refine skipH (i := 9) (dst := some 62) rfl rfl (by kernel_rfl) (by kernel_rfl) (by kernel_rfl) (fun _ _ _ h => h) (by rfl) hHeld ?_) | (refine' takeH (i := 9) (dst := some 62) (v := _) rfl rfl (by kernel_rfl) (by kernel_rfl) (by kernel_rfl) (fun _ _ _ h => h) (by rfl) ?hy hHeld ?_; case hy => (intro w hSw; clear hSw; (first | done | go_simp); try with_reducible rfl)) | fail
        try simp only [Act.put, List.setIfInBounds_toArray, List.set_cons_zero, List.set_cons_succ]
        first | (refine skipH (i := 10) (dst := some 63) rfl rfl (by kernel_rfl) (by kernel_rfl) (by kernel_rfl) (fun _ _ _ h => h) (by rfl) hHeld ?_) | (refine' takeH (i := 10) (dst := some 63) (v := _) rfl rfl (by kernel_rfl) (by kernel_rfl) (by kernel_rfl) (fun _ _ _ h => h) (by rfl) ?hy hHeld ?_; case hy => (intro w hSw; clear hSw; (first | done | go_simp); try with_reducible rfl)) | fail
        try simp only [Act.put, List.setIfInBounds_toArray, List.set_cons_zero, List.set_cons_succ]
        first | (refine skipH (i := 11) (dst := some 64) rfl rfl (by kernel_rfl) (by kernel_rfl) (by kernel_rfl) (fun _ _ _ h => h) (by rfl) hHeld ?_) | (refine' takeH (i := 11) (dst := some 64) (v := _) rfl rfl (by kernel_rfl) (by kernel_rfl) (by kernel_rfl) (fun _ _ _ h => h) (by rfl) ?hy hHeld ?_; case hy => (intro w hSw; obtain ⟨_, _, _, _, _, _, _, _, _, _, _, _, _, _, _⟩ := hSw; (first | done | go_simp); try with_reducible rfl)) | fail
        try simp only [Act.put, List.setIfInBounds_toArray, List.set_cons_zero, List.set_cons_succ]
        refine wpAnyH_ready (rs := [12]) (by kernel_rfl) (by simp) ?_
        refine AllReadyH.cons (i := 12) (o := ⟨some 65, .call _, _, _, _, _⟩) rfl (fun K hK => ?_) AllReadyH.nil
        go_simp
        refine (HSU.out _ hHeld.2.2.2.2.2.2.2.2.2.2.2.2.2.2).mono ?_
        rintro e w5 ⟨rfl, hi5⟩
        have hH := HC1.out w5 hi5
        clear hi5
        refine hK.out _ _ hH (fun _ => ?_)
        clear hK K hHeld
        have hHeld := hH
        clear hH
        try simp only [Act.put, List.setIfInBounds_toArray, List.set_cons_zero, List.set_cons_succ]
        first | (refine skipH (i := 13) (dst := some 66) rfl rfl (by kernel_rfl) (by kernel_rfl) (by kernel_rfl) (fun _ _ _ h => h) (by rfl) hHeld ?_) | (refine' takeH (i := 13) (dst := some 66) (v := _) rfl rfl (by kernel_rfl) (by kernel_rfl) (by kernel_rfl) (fun _ _ _ h => h) (by rfl) ?hy hHeld ?_; case hy => (intro w hSw; clear hSw; (first | done | go_simp); try with_reducible rfl)) | fail
        try simp only [Act.put, List.setIfInBounds_toArray, List.set_cons_zero, List.set_cons_succ]
        refine wpAnyH_done (by kernel_rfl) (NoPanic.normal ?_) _
        have HI5 := Lib.hid hHeld.2.2.2.2.2.2.2.2.2.2.2.2.2.2
        clear hHeld HI HST HSU HSN HC0 HC1
        go_wp2_with fail
        go_roundw
        case rel => exact ⟨k + 1, by omega, by omega, by go_num, HI5.out⟩
        case measure => simp [RowKit.intOf]; omega
      · go_wp2_with fail
        refine (HSN.out wr HI.out).mono ?_
        clear HST HSU HSN HC0 HC1 c0 c1 c2 c3 c4 c5 c6 c7 c8 c9 c10 c11
        rintro e w5 ⟨rfl, hi5⟩
        have HI5 := Lib.hid hi5
        clear hi5 HI
        go_wp2_with fail
        go_roundw
        case rel => exact ⟨k + 1, by omega, by omega, by go_num, HI5.out⟩
        case measure => simp [RowKit.intOf]; omega
    · have HCE : Hid (∀ V, Inv w q0 g1 q1 b d V → V.cell? ⟨b, 0, none⟩ = some (.pointer (some ⟨w.heap.size, 0, none⟩)) ∧ V.cell? ⟨b, 1, none⟩ = some (.pointer (some ⟨g1, 0, none⟩)) ∧ V.cell? ⟨d, 0, none⟩ = some (.pointer (some ⟨q0, 0, none⟩)) ∧ V.cell? ⟨d, 1, none⟩ = some (.pointer (some ⟨q1, 0, none⟩)) ∧ Inv w q0 g1 q1 b d V) := Lib.hid (fun V hV => ⟨(Lib.cell_of_heap hV.2.1.1 0).trans (by simp), (Lib.cell_of_heap hV.2.1.1 1).trans (by simp), (Lib.cell_of_heap hV.2.1.2 0).trans (by simp), (Lib.cell_of_heap hV.2.1.2 1).trans (by simp), hV⟩)
      have HT0 : Hid (∀ V, Inv w q0 g1 q1 b d V → Calls Try.prog 32 #[.pointer (some ⟨w.heap.size, 0, none⟩), .pointer (some ⟨q0, 0, none⟩)] V fun e w' => e = .returned (.bool true) ∧ Below V.heap.size V w') := Lib.hid (fun V ⟨⟨s, t, h1⟩, _, _⟩ => told_any V h1.a.p h1.a.r)
      have HT1 : Hid (∀ V, Inv w q0 g1 q1 b d V → Calls Try.prog 32 #[.pointer (some ⟨g1, 0, none⟩), .pointer (some ⟨q1, 0, none⟩)] V fun e w' => e = .returned (.bool true) ∧ Below V.heap.size V w') := Lib.hid (fun V ⟨⟨s, t, h1⟩, _, _⟩ => told_any V h1.b.p h1.b.r)
      have i1 : (0 : Int) ≤ (k : Int) := by omega
      by_cases hkn : k < n
      · have i2 : (k : Int) < (n : Int) := by omega
        have hge : decide ((k : Int) < 400) = false := decide_eq_false (by omega)
        go_wp2_with fail
        refine wp_region_noPanic ?_
        refine wp_region_held_drew (S := fun V => V.cell? ⟨b, 0, none⟩ = some (.pointer (some ⟨w.heap.size, 0, none⟩)) ∧ V.cell? ⟨b, 1, none⟩ = some (.pointer (some ⟨g1, 0, none⟩)) ∧ V.cell? ⟨d, 0, none⟩ = some (.pointer (some ⟨q0, 0, none⟩)) ∧ V.cell? ⟨d, 1, none⟩ = some (.pointer (some ⟨q1, 0, none⟩)) ∧ Inv w q0 g1 q1 b d V) (by kernel_rfl) (HCE.out _ (HI.out.below (below_dr (Below.refl _ _) 1))) (fun hHeld => ?_)
        first | (refine skipH (i := 0) (dst := some 67) rfl rfl (by kernel_rfl) (by kernel_rfl) (by kernel_rfl) (fun _ _ _ h => h) (by rfl) hHeld ?_) | (refine' takeH (i := 0) (dst := some 67) (v := _) rfl rfl (by kernel_rfl) (by kernel_rfl) (by kernel_rfl) (fun _ _ _ h => h) (by rfl) ?hy hHeld ?_; case hy => (intro w hSw; clear hSw; (first | done | go_simp); try with_reducible rfl)) | fail
        try simp only [Act.put, List.setIfInBounds_toArray, List.set_cons_zero, List.set_cons_succ]
        first | (refine skipH (i := 1) (dst := some 68) rfl rfl (by kernel_rfl) (by kernel_rfl) (by kernel_rfl) (fun _ _ _ h => h) (by rfl) hHeld ?_) | (refine' takeH (i := 1) (dst := some 68) (v := _) rfl rfl (by kernel_rfl) (by kernel_rfl) (by kernel_rfl) (fun _ _ _ h => h) (by rfl) ?hy hHeld ?_; case hy => (intro w hSw; clear hSw; (first | done | go_simp); try with_reducible rfl)) | fail
        try simp only [Act.put, List.setIfInBounds_toArray, List.set_cons_zero, List.set_cons_succ]
        first | (refine skipH (i := 2) (dst := some 69) rfl rfl (by kernel_rfl) (by kernel_rfl) (by kernel_rfl) (fun _ _ _ h => h) (by rfl) hHeld ?_) | (refine' takeH (i := 2) (dst := some 69) (v := _) rfl rfl (by kernel_rfl) (by kernel_rfl) (by kernel_rfl) (fun _ _ _ h => h) (by rfl) ?hy hHeld ?_; case hy => (intro w hSw; obtain ⟨_, _, _, _, _⟩ := hSw; (first | done | go_simp); try with_reducible rfl)) | fail
        try simp only [Act.put, List.setIfInBounds_toArray, List.set_cons_zero, List.set_cons_succ]
        first | (refine skipH (i := 3) (dst := some 70) rfl rfl (by kernel_rfl) (by kernel_rfl) (by kernel_rfl) (fun _ _ _ h => h) (by rfl) hHeld ?_) | (refine' takeH (i := 3) (dst := some 70) (v := _) rfl rfl (by kernel_rfl) (by kernel_rfl) (by kernel_rfl) (fun _ _ _ h => h) (by rfl) ?hy hHeld ?_; case hy => (intro w hSw; clear hSw; (first | done | go_simp); try with_reducible rfl)) | fail
        try simp only [Act.put, List.setIfInBounds_toArray, List.set_cons_zero, List.set_cons_succ]
        first | (refine skipH (i := 4) (dst := some 71) rfl rfl (by kernel_rfl) (by kernel_rfl) (by kernel_rfl) (fun _ _ _ h => h) (by rfl) hHeld ?_) | (refine' takeH (i := 4) (dst := some 71) (v := _) rfl rfl (by kernel_rfl) (by kernel_rfl) (by kernel_rfl) (fun _ _ _ h => h) (by rfl) ?hy hHeld ?_; case hy => (intro w hSw; clear hSw; (first | done | go_simp); try with_reducible rfl)) | fail
        try simp only [Act.put, List.setIfInBounds_toArray, List.set_cons_zero, List.set_cons_succ]
        first | (refine skipH (i := 5) (dst := some 72) rfl rfl (by kernel_rfl) (by kernel_rfl) (by kernel_rfl) (fun _ _ _ h => h) (by rfl) hHeld ?_) | (refine' takeH (i := 5) (dst := some 72) (v := _) rfl rfl (by kernel_rfl) (by kernel_rfl) (by kernel_rfl) (fun _ _ _ h => h) (by rfl) ?hy hHeld ?_; case hy => (intro w hSw; obtain ⟨_, _, _, _, _⟩ := hSw; (first | done | go_simp); try with_reducible rfl)) | fail
        try simp only [Act.put, List.setIfInBounds_toArray, List.set_cons_zero, List.set_cons_succ]
        refine wpAnyH_ready (rs := [6]) (by kernel_rfl) (by simp) ?_
        refine AllReadyH.cons (i := 6) (o := ⟨some 73, .call _, _, _, _, _⟩) rfl (fun K hK => ?_) AllReadyH.nil
        go_simp
        refine (HT0.out _ hHeld.2.2.2.2).mono ?_
        rintro e w5 ⟨rfl, b5⟩
        have hH := HCE.out _ (hHeld.2.2.2.2.below b5)
        clear b5
        refine hK.out _ _ hH (fun _ => ?_)
        clear hK K hHeld
        have hHeld := hH
        clear hH
        try simp only [Act.put, List.setIfInBounds_toArray, List.set_cons_zero, List.set_cons_succ]
        first | (refine skipH (i := 7) (dst := some 74) rfl rfl (by kernel_rfl) (by kernel_rfl) (by kernel_rfl) (fun _ _ _ h => h) (by rfl) hHeld ?_) | (refine' takeH (i := 7) (dst := some 74) (v := _) rfl rfl (by kernel_rfl) (by kernel_rfl) (by kernel_rfl) (fun _ _ _ h => h) (by rfl) ?hy hHeld ?_; case hy => (intro w hSw; clear hSw; (first | done | go_simp); try with_reducible rfl)) | fail
        try simp only [Act.put, List.setIfInBounds_toArray, List.set_cons_zero, List.set_cons_succ]
        first | (refine skipH (i := 8) (dst := some 75) rfl rfl (by kernel_rfl) (by kernel_rfl) (by kernel_rfl) (fun _ _ _ h => h) (by rfl) hHeld ?_) | (refine' takeH (i := 8) (dst := some 75) (v := _) rfl rfl (by kernel_rfl) (by kernel_rfl) (by kernel_rfl) (fun _ _ _ h => h) (by rfl) ?hy hHeld ?_; case hy => (intro w hSw; clear hSw; (first | done | go_simp); try with_reducible rfl)) | fail
        try simp only [Act.put, List.setIfInBounds_toArray, List.set_cons_zero, List.set_cons_succ]
        first | (refine skipH (i := 9) (dst := some 76) rfl rfl (by kernel_rfl) (by kernel_rfl) (by kernel_rfl) (fun _ _ _ h => h) (by rfl) hHeld ?_) | (refine' takeH (i := 9) (dst := some 76) (v := _) rfl rfl (by kernel_rfl) (by kernel_rfl) (by kernel_rfl) (fun _ _ _ h => h) (by rfl) ?hy hHeld ?_; case hy => (intro w hSw; clear hSw; (first | done | go_simp); try with_reducible rfl)) | fail
        try simp only [Act.put, List.setIfInBounds_toArray, List.set_cons_zero, List.set_cons_succ]
        first | (refine skipH (i := 10) (dst := some 77) rfl rfl (by kernel_rfl) (by kernel_rfl) (by kernel_rfl) (fun _ _ _ h => h) (by rfl) hHeld ?_) | (refine' takeH (i := 10) (dst := some 77) (v := _) rfl rfl (by kernel_rfl) (by kernel_rfl) (by kernel_rfl) (fun _ _ _ h => h) (by rfl) ?hy hHeld ?_; case hy => (intro w hSw; obtain ⟨_, _, _, _, _⟩ := hSw; (first | done | go_simp); try with_reducible rfl)) | fail
        try simp only [Act.put, List.setIfInBounds_toArray, List.set_cons_zero, List.set_cons_succ]
        first | (refine skipH (i := 11) (dst := some 78) rfl rfl (by kernel_rfl) (by kernel_rfl) (by kernel_rfl) (fun _ _ _ h => h) (by rfl) hHeld ?_) | (refine' takeH (i := 11) (dst := some 78) (v := _) rfl rfl (by kernel_rfl) (by kernel_rfl) (by kernel_rfl) (fun _ _ _ h => h) (by rfl) ?hy hHeld ?_; case hy => (intro w hSw; clear hSw; (first | done | go_simp); try with_reducible rfl)) | fail
        try simp only [Act.put, List.setIfInBounds_toArray, List.set_cons_zero, List.set_cons_succ]
        first | (refine skipH (i := 12) (dst := some 79) rfl rfl (by kernel_rfl) (by kernel_rfl) (by kernel_rfl) (fun _ _ _ h => h) (by rfl) hHeld ?_) | (refine' takeH (i := 12) (dst := some 79) (v := _) rfl rfl (by kernel_rfl) (by kernel_rfl) (by kernel_rfl) (fun _ _ _ h => h) (by rfl) ?hy hHeld ?_; case hy => (intro w hSw; clear hSw; (first | done | go_simp); try with_reducible rfl)) | fail
        try simp only [Act.put, List.setIfInBounds_toArray, List.set_cons_zero, List.set_cons_succ]
        first | (refine skipH (i := 13) (dst := some 80) rfl rfl (by kernel_rfl) (by kernel_rfl) (by kernel_rfl) (fun _ _ _ h => h) (by rfl) hHeld ?_) | (refine' takeH (i := 13) (dst := some 80) (v := _) rfl rfl (by kernel_rfl) (by kernel_rfl) (by kernel_rfl) (fun _ _ _ h => h) (by rfl) ?hy hHeld ?_; case hy => (intro w hSw; obtain ⟨_, _, _, _, _⟩ := hSw; (first | done | go_simp); try with_reducible rfl)) | fail
        try simp only [Act.put, List.setIfInBounds_toArray, List.set_cons_zero, List.set_cons_succ]
        refine wpAnyH_ready (rs := [14]) (by kernel_rfl) (by simp) ?_
        refine AllReadyH.cons (i := 14) (o := ⟨some 81, .call _, _, _, _, _⟩) rfl (fun K hK => ?_) AllReadyH.nil
        go_simp
        refine (HT1.out _ hHeld.2.2.2.2).mono ?_
        rintro e w6 ⟨rfl, b5⟩
        have hH := HCE.out _ (hHeld.2.2.2.2.below b5)
        clear b5
        refine hK.out _ _ hH (fun _ => ?_)
        clear hK K hHeld
        have hHeld := hH
        clear hH
        try simp only [Act.put, List.setIfInBounds_toArray, List.set_cons_zero, List.set_cons_succ]
        first | (refine skipH (i := 15) (dst := some 82) rfl rfl (by kernel_rfl) (by kernel_rfl) (by kernel_rfl) (fun _ _ _ h => h) (by rfl) hHeld ?_) | (refine' takeH (i := 15) (dst := some 82) (v := _) rfl rfl (by kernel_rfl) (by kernel_rfl) (by kernel_rfl) (fun _ _ _ h => h) (by rfl) ?hy hHeld ?_; case hy => (intro w hSw; clear hSw; (first | done | go_simp); try with_reducible rfl)) | fail
        try simp only [Act.put, List.setIfInBounds_toArray, List.set_cons_zero, List.set_cons_succ]
        first | (refine skipH (i := 16) (dst := some 83) rfl rfl (by kernel_rfl) (by kernel_rfl) (by kernel_rfl) (fun _ _ _ h => h) (by rfl) hHeld ?_) | (refine' takeH (i := 16) (dst := some 83) (v := _) rfl rfl (by kernel_rfl) (by kernel_rfl) (by kernel_rfl) (fun _ _ _ h => h) (by rfl) ?hy hHeld ?_; case hy => (intro w hSw; clear hSw; (first | done | go_simp); try with_reducible rfl)) | fail
        try simp only [Act.put, List.setIfInBounds_toArray, List.set_cons_zero, List.set_cons_succ]
        refine wpAnyH_ready (rs := [17]) (by kernel_rfl) (by simp) ?_
        refine AllReadyH.cons (i := 17) (o := ⟨some 84, .call _, _, _, _, _⟩) rfl (fun K hK => ?_) AllReadyH.nil
        go_simp
        refine (works_any _).mono ?_
        rintro e w7 ⟨rfl, b5⟩
        have hH := HCE.out _ (hHeld.2.2.2.2.below b5)
        clear b5
        refine hK.out _ _ hH (fun _ => ?_)
        clear hK K hHeld
        have hHeld := hH
        clear hH
        try simp only [Act.put, List.setIfInBounds_toArray, List.set_cons_zero, List.set_cons_succ]
        first | (refine skipH (i := 18) (dst := some 85) rfl rfl (by kernel_rfl) (by kernel_rfl) (by kernel_rfl) (fun _ _ _ h => h) (by rfl) hHeld ?_) | (refine' takeH (i := 18) (dst := some 85) (v := _) rfl rfl (by kernel_rfl) (by kernel_rfl) (by kernel_rfl) (fun _ _ _ h => h) (by rfl) ?hy hHeld ?_; case hy => (intro w hSw; clear hSw; (first | done | go_simp); try with_reducible rfl)) | fail
        try simp only [Act.put, List.setIfInBounds_toArray, List.set_cons_zero, List.set_cons_succ]
        first | (refine skipH (i := 19) (dst := some 2) rfl rfl (by kernel_rfl) (by kernel_rfl) (by kernel_rfl) (fun _ _ _ h => h) (by rfl) hHeld ?_) | (refine' takeH (i := 19) (dst := some 2) (v := _) rfl rfl (by kernel_rfl) (by kernel_rfl) (by kernel_rfl) (fun _ _ _ h => h) (by rfl) ?hy hHeld ?_; case hy => (intro w hSw; clear hSw; (first | done | go_simp); try with_reducible rfl)) | fail
        try simp only [Act.put, List.setIfInBounds_toArray, List.set_cons_zero, List.set_cons_succ]
        refine wpAnyH_done (by kernel_rfl) (NoPanic.normal ?_) _
        have HB5 := Lib.hid hHeld.2.2.2.2.2.2
        clear hHeld
        go_wp2_with fail
        go_ret
        exact ⟨rfl, HB5.out⟩
      · have hge : decide ((k : Int) < (n : Int)) = false := decide_eq_false (by omega)
        go_wp2_with fail
        refine wp_region_noPanic ?_
        refine wp_region_held_drew (S := fun V => V.cell? ⟨b, 0, none⟩ = some (.pointer (some ⟨w.heap.size, 0, none⟩)) ∧ V.cell? ⟨b, 1, none⟩ = some (.pointer (some ⟨g1, 0, none⟩)) ∧ V.cell? ⟨d, 0, none⟩ = some (.pointer (some ⟨q0, 0, none⟩)) ∧ V.cell? ⟨d, 1, none⟩ = some (.pointer (some ⟨q1, 0, none⟩)) ∧ Inv w q0 g1 q1 b d V) (by kernel_rfl) (HCE.out _ (HI.out.below (below_dr (Below.refl _ _) 1))) (fun hHeld => ?_)
        first | (refine skipH (i := 0) (dst := some 67) rfl rfl (by kernel_rfl) (by kernel_rfl) (by kernel_rfl) (fun _ _ _ h => h) (by rfl) hHeld ?_) | (refine' takeH (i := 0) (dst := some 67) (v := _) rfl rfl (by kernel_rfl) (by kernel_rfl) (by kernel_rfl) (fun _ _ _ h => h) (by rfl) ?hy hHeld ?_; case hy => (intro w hSw; clear hSw; (first | done | go_simp); try with_reducible rfl)) | fail
        try simp only [Act.put, List.setIfInBounds_toArray, List.set_cons_zero, List.set_cons_succ]
        first | (refine skipH (i := 1) (dst := some 68) rfl rfl (by kernel_rfl) (by kernel_rfl) (by kernel_rfl) (fun _ _ _ h => h) (by rfl) hHeld ?_) | (refine' takeH (i := 1) (dst := some 68) (v := _) rfl rfl (by kernel_rfl) (by kernel_rfl) (by kernel_rfl) (fun _ _ _ h => h) (by rfl) ?hy hHeld ?_; case hy => (intro w hSw; clear hSw; (first | done | go_simp); try with_reducible rfl)) | fail
        try simp only [Act.put, List.setIfInBounds_toArray, List.set_cons_zero, List.set_cons_succ]
        first | (refine skipH (i := 2) (dst := some 69) rfl rfl (by kernel_rfl) (by kernel_rfl) (by kernel_rfl) (fun _ _ _ h => h) (by rfl) hHeld ?_) | (refine' takeH (i := 2) (dst := some 69) (v := _) rfl rfl (by kernel_rfl) (by kernel_rfl) (by kernel_rfl) (fun _ _ _ h => h) (by rfl) ?hy hHeld ?_; case hy => (intro w hSw; obtain ⟨_, _, _, _, _⟩ := hSw; (first | done | go_simp); try with_reducible rfl)) | fail
        try simp only [Act.put, List.setIfInBounds_toArray, List.set_cons_zero, List.set_cons_succ]
        first | (refine skipH (i := 3) (dst := some 70) rfl rfl (by kernel_rfl) (by kernel_rfl) (by kernel_rfl) (fun _ _ _ h => h) (by rfl) hHeld ?_) | (refine' takeH (i := 3) (dst := some 70) (v := _) rfl rfl (by kernel_rfl) (by kernel_rfl) (by kernel_rfl) (fun _ _ _ h => h) (by rfl) ?hy hHeld ?_; case hy => (intro w hSw; clear hSw; (first | done | go_simp); try with_reducible rfl)) | fail
        try simp only [Act.put, List.setIfInBounds_toArray, List.set_cons_zero, List.set_cons_succ]
        first | (refine skipH (i := 4) (dst := some 71) rfl rfl (by kernel_rfl) (by kernel_rfl) (by kernel_rfl) (fun _ _ _ h => h) (by rfl) hHeld ?_) | (refine' takeH (i := 4) (dst := some 71) (v := _) rfl rfl (by kernel_rfl) (by kernel_rfl) (by kernel_rfl) (fun _ _ _ h => h) (by rfl) ?hy hHeld ?_; case hy => (intro w hSw; clear hSw; (first | done | go_simp); try with_reducible rfl)) | fail
        try simp only [Act.put, List.setIfInBounds_toArray, List.set_cons_zero, List.set_cons_succ]
        first | (refine skipH (i := 5) (dst := some 72) rfl rfl (by kernel_rfl) (by kernel_rfl) (by kernel_rfl) (fun _ _ _ h => h) (by rfl) hHeld ?_) | (refine' takeH (i := 5) (dst := some 72) (v := _) rfl rfl (by kernel_rfl) (by kernel_rfl) (by kernel_rfl) (fun _ _ _ h => h) (by rfl) ?hy hHeld ?_; case hy => (intro w hSw; obtain ⟨_, _, _, _, _⟩ := hSw; (first | done | go_simp); try with_reducible rfl)) | fail
        try simp only [Act.put, List.setIfInBounds_toArray, List.set_cons_zero, List.set_cons_succ]
        refine wpAnyH_ready (rs := [6]) (by kernel_rfl) (by simp) ?_
        refine AllReadyH.cons (i := 6) (o := ⟨some 73, .call _, _, _, _, _⟩) rfl (fun K hK => ?_) AllReadyH.nil
        go_simp
        refine (HT0.out _ hHeld.2.2.2.2).mono ?_
        rintro e w5 ⟨rfl, b5⟩
        have hH := HCE.out _ (hHeld.2.2.2.2.below b5)
        clear b5
        refine hK.out _ _ hH (fun _ => ?_)
        clear hK K hHeld
        have hHeld := hH
        clear hH
        try simp only [Act.put, List.setIfInBounds_toArray, List.set_cons_zero, List.set_cons_succ]
        first | (refine skipH (i := 7) (dst := some 74) rfl rfl (by kernel_rfl) (by kernel_rfl) (by kernel_rfl) (fun _ _ _ h => h) (by rfl) hHeld ?_) | (refine' takeH (i := 7) (dst := some 74) (v := _) rfl rfl (by kernel_rfl) (by kernel_rfl) (by kernel_rfl) (fun _ _ _ h => h) (by rfl) ?hy hHeld ?_; case hy => (intro w hSw; clear hSw; (first | done | go_simp); try with_reducible rfl)) | fail
        try simp only [Act.put, List.setIfInBounds_toArray, List.set_cons_zero, List.set_cons_succ]
        first | (refine skipH (i := 8) (dst := some 75) rfl rfl (by kernel_rfl) (by kernel_rfl) (by kernel_rfl) (fun _ _ _ h => h) (by rfl) hHeld ?_) | (refine' takeH (i := 8) (dst := some 75) (v := _) rfl rfl (by kernel_rfl) (by kernel_rfl) (by kernel_rfl) (fun _ _ _ h => h) (by rfl) ?hy hHeld ?_; case hy => (intro w hSw; clear hSw; (first | done | go_simp); try with_reducible rfl)) | fail
        try simp only [Act.put, List.setIfInBounds_toArray, List.set_cons_zero, List.set_cons_succ]
        first | (refine skipH (i := 9) (dst := some 76) rfl rfl (by kernel_rfl) (by kernel_rfl) (by kernel_rfl) (fun _ _ _ h => h) (by rfl) hHeld ?_) | (refine' takeH (i := 9) (dst := some 76) (v := _) rfl rfl (by kernel_rfl) (by kernel_rfl) (by kernel_rfl) (fun _ _ _ h => h) (by rfl) ?hy hHeld ?_; case hy => (intro w hSw; clear hSw; (first | done | go_simp); try with_reducible rfl)) | fail
        try simp only [Act.put, List.setIfInBounds_toArray, List.set_cons_zero, List.set_cons_succ]
        first | (refine skipH (i := 10) (dst := some 77) rfl rfl (by kernel_rfl) (by kernel_rfl) (by kernel_rfl) (fun _ _ _ h => h) (by rfl) hHeld ?_) | (refine' takeH (i := 10) (dst := some 77) (v := _) rfl rfl (by kernel_rfl) (by kernel_rfl) (by kernel_rfl) (fun _ _ _ h => h) (by rfl) ?hy hHeld ?_; case hy => (intro w hSw; obtain ⟨_, _, _, _, _⟩ := hSw; (first | done | go_simp); try with_reducible rfl)) | fail
        try simp only [Act.put, List.setIfInBounds_toArray, List.set_cons_zero, List.set_cons_succ]
        first | (refine skipH (i := 11) (dst := some 78) rfl rfl (by kernel_rfl) (by kernel_rfl) (by kernel_rfl) (fun _ _ _ h => h) (by rfl) hHeld ?_) | (refine' takeH (i := 11) (dst := some 78) (v := _) rfl rfl (by kernel_rfl) (by kernel_rfl) (by kernel_rfl) (fun _ _ _ h => h) (by rfl) ?hy hHeld ?_; case hy => (intro w hSw; clear hSw; (first | done | go_simp); try with_reducible rfl)) | fail
        try simp only [Act.put, List.setIfInBounds_toArray, List.set_cons_zero, List.set_cons_succ]
        first | (refine skipH (i := 12) (dst := some 79) rfl rfl (by kernel_rfl) (by kernel_rfl) (by kernel_rfl) (fun _ _ _ h => h) (by rfl) hHeld ?_) | (refine' takeH (i := 12) (dst := some 79) (v := _) rfl rfl (by kernel_rfl) (by kernel_rfl) (by kernel_rfl) (fun _ _ _ h => h) (by rfl) ?hy hHeld ?_; case hy => (intro w hSw; clear hSw; (first | done | go_simp); try with_reducible rfl)) | fail
        try simp only [Act.put, List.setIfInBounds_toArray, List.set_cons_zero, List.set_cons_succ]
        first | (refine skipH (i := 13) (dst := some 80) rfl rfl (by kernel_rfl) (by kernel_rfl) (by kernel_rfl) (fun _ _ _ h => h) (by rfl) hHeld ?_) | (refine' takeH (i := 13) (dst := some 80) (v := _) rfl rfl (by kernel_rfl) (by kernel_rfl) (by kernel_rfl) (fun _ _ _ h => h) (by rfl) ?hy hHeld ?_; case hy => (intro w hSw; obtain ⟨_, _, _, _, _⟩ := hSw; (first | done | go_simp); try with_reducible rfl)) | fail
        try simp only [Act.put, List.setIfInBounds_toArray, List.set_cons_zero, List.set_cons_succ]
        refine wpAnyH_ready (rs := [14]) (by kernel_rfl) (by simp) ?_
        refine AllReadyH.cons (i := 14) (o := ⟨some 81, .call _, _, _, _, _⟩) rfl (fun K hK => ?_) AllReadyH.nil
        go_simp
        refine (HT1.out _ hHeld.2.2.2.2).mono ?_
        rintro e w6 ⟨rfl, b5⟩
        have hH := HCE.out _ (hHeld.2.2.2.2.below b5)
        clear b5
        refine hK.out _ _ hH (fun _ => ?_)
        clear hK K hHeld
        have hHeld := hH
        clear hH
        try simp only [Act.put, List.setIfInBounds_toArray, List.set_cons_zero, List.set_cons_succ]
        first | (refine skipH (i := 15) (dst := some 82) rfl rfl (by kernel_rfl) (by kernel_rfl) (by kernel_rfl) (fun _ _ _ h => h) (by rfl) hHeld ?_) | (refine' takeH (i := 15) (dst := some 82) (v := _) rfl rfl (by kernel_rfl) (by kernel_rfl) (by kernel_rfl) (fun _ _ _ h => h) (by rfl) ?hy hHeld ?_; case hy => (intro w hSw; clear hSw; (first | done | go_simp); try with_reducible rfl)) | fail
        try simp only [Act.put, List.setIfInBounds_toArray, List.set_cons_zero, List.set_cons_succ]
        first | (refine skipH (i := 16) (dst := some 83) rfl rfl (by kernel_rfl) (by kernel_rfl) (by kernel_rfl) (fun _ _ _ h => h) (by rfl) hHeld ?_) | (refine' takeH (i := 16) (dst := some 83) (v := _) rfl rfl (by kernel_rfl) (by kernel_rfl) (by kernel_rfl) (fun _ _ _ h => h) (by rfl) ?hy hHeld ?_; case hy => (intro w hSw; clear hSw; (first | done | go_simp); try with_reducible rfl)) | fail
        try simp only [Act.put, List.setIfInBounds_toArray, List.set_cons_zero, List.set_cons_succ]
        refine wpAnyH_ready (rs := [17]) (by kernel_rfl) (by simp) ?_
        refine AllReadyH.cons (i := 17) (o := ⟨some 84, .call _, _, _, _, _⟩) rfl (fun K hK => ?_) AllReadyH.nil
        go_simp
        refine (works_any _).mono ?_
        rintro e w7 ⟨rfl, b5⟩
        have hH := HCE.out _ (hHeld.2.2.2.2.below b5)
        clear b5
        refine hK.out _ _ hH (fun _ => ?_)
        clear hK K hHeld
        have hHeld := hH
        clear hH
        try simp only [Act.put, List.setIfInBounds_toArray, List.set_cons_zero, List.set_cons_succ]
        first | (refine skipH (i := 18) (dst := some 85) rfl rfl (by kernel_rfl) (by kernel_rfl) (by kernel_rfl) (fun _ _ _ h => h) (by rfl) hHeld ?_) | (refine' takeH (i := 18) (dst := some 85) (v := _) rfl rfl (by kernel_rfl) (by kernel_rfl) (by kernel_rfl) (fun _ _ _ h => h) (by rfl) ?hy hHeld ?_; case hy => (intro w hSw; clear hSw; (first | done | go_simp); try with_reducible rfl)) | fail
        try simp only [Act.put, List.setIfInBounds_toArray, List.set_cons_zero, List.set_cons_succ]
        first | (refine skipH (i := 19) (dst := some 2) rfl rfl (by kernel_rfl) (by kernel_rfl) (by kernel_rfl) (fun _ _ _ h => h) (by rfl) hHeld ?_) | (refine' takeH (i := 19) (dst := some 2) (v := _) rfl rfl (by kernel_rfl) (by kernel_rfl) (by kernel_rfl) (fun _ _ _ h => h) (by rfl) ?hy hHeld ?_; case hy => (intro w hSw; clear hSw; (first | done | go_simp); try with_reducible rfl)) | fail
        try simp only [Act.put, List.setIfInBounds_toArray, List.set_cons_zero, List.set_cons_succ]
        refine wpAnyH_done (by kernel_rfl) (NoPanic.normal ?_) _
        have HB5 := Lib.hid hHeld.2.2.2.2.2.2
        clear hHeld
        go_wp2_with fail
        go_ret
        exact ⟨rfl, HB5.out⟩
end Go.Proofs.Ytjafddkkndfphaa.Kq
