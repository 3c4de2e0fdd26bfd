/- The contracts of U32s and U64s, the document's and the program's: one and the same. -/
import Derived.Test.YtfafhkhamaccfaaClD
import Derived.Test.YtfafhkhamaccfaaClE
import Derived.Deep.LoopGhost
namespace Go.Proofs.Ytfafhkhamaccfaa.Cl
open Go.ChangeShapes Go.WideShapes Go.ChangeAt Go.RowKit Own

theorem info_u32 : (Try.prog.info? 44).map (fun i => (i.zero, i.size, i.bytes)) = some (some (.int .u32 0), 1, 4) := by kernel_rfl
theorem info_u64 : (Try.prog.info? 99).map (fun i => (i.zero, i.size, i.bytes)) = some (some (.int .u64 0), 1, 8) := by kernel_rfl
theorem info_str : (Try.prog.info? 9).map (fun i => (i.zero, i.size, i.bytes)) = some (some (.string ByteArray.empty), 1, 16) := by kernel_rfl
theorem src_new (w : World) (v : Value) (t : TypeId) : Src (w.alloc (.cells #[v] t)) (some ⟨w.heap.size, 0, none⟩) 1 1 [v] :=
  .inr ⟨_, rfl, rfl, fun j u hu => by
    match j, hu with
    | 0, hu => simp at hu; subst hu; simp [Addr.add]⟩
/-- What a call hands out that makes a list beside an error: a list of its own, and nothing that was there has changed. -/
def Made (E : TypeId) (xs : List Value) (er : Int) (w : World) (e : Ending) (w' : World) : Prop :=
  ∃ A n c, n = xs.length ∧ e = .returned (.tuple #[.slice A n c, .int .i64 er]) ∧ w'.ownsRow w.heap.size E 1 (.slice A n c) n xs ∧ Below w.heap.size w w'
theorem made_none (E : TypeId) (er : Int) (w w' : World) (hb : Below w.heap.size w w') : Made E [] er w (.returned (.tuple #[.slice none 0 0, .int .i64 er])) w' :=
  ⟨none, 0, 0, rfl, rfl, own_nil w' _ E, hb⟩
theorem made_own {E : TypeId} {xs : List Value} {er : Int} {w w' : World} {v : Value} {n : Nat} (hn : n = xs.length) (ho : w'.ownsRow w.heap.size E 1 v n xs) (hb : Below w.heap.size w w') : Made E xs er w (.returned (.tuple #[v, .int .i64 er])) w' := by
  obtain ⟨A, c, rfl, _⟩ := own_src ho
  exact ⟨A, n, c, hn, rfl, ho, hb⟩
theorem own_base {w : World} {b b' : Nat} {E : TypeId} {v : Value} {n : Nat} {xs : List Value} (h : w.ownsRow b E 1 v n xs) (hb : b' ≤ b) : w.ownsRow b' E 1 v n xs := by
  refine ⟨h.1, ?_⟩
  rcases h.2 with h0 | ⟨g, cap, cur, hv, hg, hr⟩
  · exact .inl h0
  · exact .inr ⟨g, cap, cur, hv, Nat.le_trans hb hg, hr⟩
/-- A row of the call's own that lies from base on is kept where a block below base changes. -/
theorem own_kept {w w' : World} {base r : Nat} {E : TypeId} {v : Value} {n : Nat} {xs : List Value} (h : w.ownsRow base E 1 v n xs) (hg : w.grownBy w' (some r)) (hr : r < base) : w'.ownsRow base E 1 v n xs := by
  refine h.kept hg ?_
  rcases h.2 with ⟨rfl, _⟩ | ⟨g, cap, cur, rfl, hgb, _⟩
  · exact .inl rfl
  · refine .inr ?_
    intro e
    simp [Value.ownBlock] at e
    omega
/-- A reader whose blocks lie below base is kept where a row from base on grows. -/
theorem rd_grown {w w' : World} {base r g : Nat} {E : TypeId} {v : Value} {n : Nat} {xs : List Value} {l : List UInt8} {o : Obj} (hrd : Rd w r g l) (h : w.ownsRow base E 1 v n xs) (hr : r < base) (hgb : g < base) (hg : (w.alloc o).grownBy w' v.ownBlock) : Rd w' r g l := by
  have hne : ∀ q, q < base → some q ≠ v.ownBlock := fun q hq => by
    rcases h.2 with ⟨rfl, _⟩ | ⟨g', cap, cur, rfl, hb, _⟩
    · simp [Value.ownBlock]
    · simp [Value.ownBlock]; omega
  exact (hrd.kept (World.grownBy_alloc w o none) (by simp) (by simp)).kept hg (hne r hr) (hne g hgb)
def chunk (k : Nat) (l : List UInt8) (n : Nat) : List Nat := (List.range n).map fun i => num ((l.drop (k * i)).take k)
theorem chunk_len (k : Nat) (l : List UInt8) (n : Nat) : (chunk k l n).length = n := by simp [chunk]
theorem chunk_succ (k : Nat) (l : List UInt8) (n : Nat) : chunk k l (n + 1) = chunk k l n ++ [num ((l.drop (k * n)).take k)] := by simp [chunk, List.range_succ]
theorem nats_snoc (k : IntKind) (xs : List Nat) (x : Nat) : nats k (xs ++ [x]) = nats k xs ++ [.int k (x : Int)] := by simp [nats]
def c32 (l : List UInt8) : List Nat := if l.length % 4 = 0 then chunk 4 l (l.length / 4) else []
def c64 (l : List UInt8) : List Nat := if l.length % 8 = 0 then chunk 8 l (l.length / 8) else []
def e32 (l : List UInt8) : Int := if l.length % 4 = 0 then 0 else 4
def e64 (l : List UInt8) : Int := if l.length % 8 = 0 then 0 else 4
theorem num_take (k : Nat) (l : List UInt8) : num (l.take k) < 256 ^ k := Nat.lt_of_lt_of_le (num_lt _) (Nat.pow_le_pow_right (by omega) (by simp; omega))
theorem below_grown {B : Nat} {a w w' : World} {v : Value} {base : Nat} {E : TypeId} {n : Nat} {xs : List Value} {o : Obj} (hb : Below B a w) (hB : B ≤ w.heap.size) (ho : w.ownsRow base E 1 v n xs) (hbase : B ≤ base) (hg : (w.alloc o).grownBy w' v.ownBlock) : Below B a w' := by
  refine (hb.alloc hB o).grown hg (by simp; omega) fun k hk => ?_
  rcases ho.2 with ⟨rfl, _⟩ | ⟨g, cap, cur, rfl, hgb, _⟩
  · simp [Value.ownBlock] at hk
  · simp [Value.ownBlock] at hk
    omega

set_option maxHeartbeats 1000000 in
theorem ref32_any (v : ByteArray) (w : World) (hv : v.size ≤ 67108864) :
    Calls Try.prog 67 #[.string v] w (Made 44 (nats .u32 (c32 v.data.toList)) (e32 v.data.toList) w) := by
  have hz : v.data.toList.length = v.size := rfl
  by_cases hm : v.size % 4 = 0
  · have HC : Hid (c32 v.data.toList = chunk 4 v.data.toList (v.size / 4)) := Lib.hid (by unfold c32; rw [if_pos (by omega), hz])
    have HE : Hid (e32 v.data.toList = 0) := Lib.hid (by unfold e32; rw [if_pos (by omega)])
    have hne : ((v.size : Int) % 4 != 0) = false := by simp; omega
    have HZ := Lib.hid hz
    clear hz
    go_enter Try.func67, Try.ntmps67
    go_wp2
    go_loopw [4, 5] (fun s i wr => ∃ j : Nat, 4 * j ≤ v.size ∧ i = .int .i64 (4 * j : Nat) ∧ wr.ownsRow w.heap.size 44 1 s j (nats .u32 (chunk 4 v.data.toList j)) ∧ Below w.heap.size w wr) (fun _ i _ => v.size - (intOf i).toNat)
    case atStart => exact ⟨0, by omega, rfl, own_nil w _ _, Below.refl _ _⟩
    case round =>
      obtain ⟨j, hj, rfl, hown, hbw⟩ := hrel
      have HB := Lib.hid hbw
      have HO := Lib.hid hown
      have hsz := hbw.size
      clear hbw hown
      by_cases hlt : 4 * j < v.size
      · have hx : num (v.extract (4 * j) (4 * j + 4)).data.toList < 4294967296 := by
          refine Nat.lt_of_lt_of_le (num_lt _) (Nat.le_trans (Nat.pow_le_pow_right (by omega) (?_ : _ ≤ 4)) (by decide))
          rw [extract_list]; simp; omega
        have HX : Hid (num (v.extract (4 * j) (4 * j + 4)).data.toList = num ((v.data.toList.drop (4 * j)).take 4)) := Lib.hid (by
          rw [extract_list, List.drop_take]; congr 2; omega)
        go_wp2_with fail
        refine (number_any _ _ (by simp; omega)).mono ?_
        rintro e w1 ⟨rfl, rfl⟩
        generalize num (v.extract (4 * j) (4 * j + 4)).data.toList = x at hx HX ⊢
        go_wp2_with (at_builtin; go_must (refine wpList_append_src rfl (.tmp 16) (.tmp 24) 85 rfl w.heap.size 44 (.int .u32 0) 4 Try.underlying85 info_u32 rfl _ j (nats .u32 (chunk 4 v.data.toList j)) rfl (HO.out.alloc _) _ 1 1 [.int .u32 (x : Int)] rfl (src_new _ _ _) (by intro u hu; simp at hu; subst hu; rfl) (by omega) (by omega) (by simp; omega) ?_); intro v1 w2 hown1 hg1)
        have HO1 := Lib.hid hown1
        have HB1 := Lib.hid (below_grown HB.out hsz HO.out (Nat.le_refl _) hg1)
        clear hown1 hg1
        go_wp2_with fail
        go_roundw
        case rel =>
          refine ⟨j + 1, by omega, by go_num, ?_, HB1.out⟩
          rw [chunk_succ, ← HX.out, nats_snoc]
          exact HO1.out
        case measure => simp [intOf]; omega
      · obtain rfl : j = v.size / 4 := by omega
        go_wp2_with fail
        go_ret2
        rw [HC.out, HE.out]
        exact made_own (by rw [nats_len, chunk_len]) HO.out HB.out
  · have HC : Hid (c32 v.data.toList = []) := Lib.hid (by unfold c32; rw [if_neg (by omega)])
    have HE : Hid (e32 v.data.toList = 4) := Lib.hid (by unfold e32; rw [if_neg (by omega)])
    have hne : ((v.size : Int) % 4 != 0) = true := by simp; omega
    clear hz
    go_enter Try.func67, Try.ntmps67
    go_wp2
    go_ret2
    rw [HC.out, HE.out]
    exact made_none _ _ _ _ (Below.refl _ _)

end Go.Proofs.Ytfafhkhamaccfaa.Cl
