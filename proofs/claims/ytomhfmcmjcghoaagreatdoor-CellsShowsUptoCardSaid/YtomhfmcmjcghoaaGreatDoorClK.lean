/- Words for the law on reading: what is kept while three lists of the call's own are spoilt; and the law's walk. -/
import Derived.Test.YtomhfmcmjcghoaaGreatDoorClI
import Derived.Test.YtomhfmcmjcghoaaGreatDoorClJ
import Derived.Maps.AppendAt
namespace Go.Proofs.YtomhfmcmjcghoaaGreatDoor.Cl
open Go.ChangeShapes Go.WideShapes Go.ChangeAt Go.RowKit Own

/-- The blocks in S are as they were. -/
structure Keeps (S : Nat → Prop) (W wr : World) : Prop where
  os : wr.os = W.os
  tape : wr.tape = W.tape
  output : wr.output = W.output
  size : W.heap.size ≤ wr.heap.size
  block : ∀ g, S g → wr.heap[g]? = W.heap[g]?
theorem Keeps.refl (S : Nat → Prop) (W : World) : Keeps S W W := ⟨rfl, rfl, rfl, Nat.le_refl _, fun _ _ => rfl⟩
theorem Keeps.drewN {S : Nat → Prop} {W wr : World} (h : Keeps S W wr) (n : Nat) : Keeps S W (wr.drewN n) := ⟨h.os, h.tape, h.output, h.size, h.block⟩
theorem Keeps.alloc {S : Nat → Prop} {W wr : World} (h : Keeps S W wr) (hS : ∀ g, S g → g < W.heap.size) (o : Obj) : Keeps S W (wr.alloc o) :=
  ⟨h.os, h.tape, h.output, by simp; have := h.size; omega, fun g hg => (Below.heap_alloc wr o g (by have := hS g hg; have := h.size; omega)).trans (h.block g hg)⟩
theorem Keeps.grown {S : Nat → Prop} {W wr w' : World} {row : Option Nat} (h : Keeps S W wr) (hS : ∀ g, S g → g < W.heap.size) (hg : wr.grownBy w' row) (hr : ∀ g, row = some g → ¬ S g) : Keeps S W w' :=
  ⟨hg.os.trans h.os, hg.tape.trans h.tape, hg.output.trans h.output, Nat.le_trans h.size hg.size, fun g hs => (hg.block g (by have := hS g hs; have := h.size; omega) (fun e => hr g e.symm hs)).trans (h.block g hs)⟩
theorem Keeps.below {S : Nat → Prop} {W wr : World} {B : Nat} (h : Keeps S W wr) (hB : ∀ g, g < B → S g) : Below B W wr := ⟨h.os, h.tape, h.output, h.size, fun g hg => h.block g (hB g hg)⟩
theorem src_keeps {S : Nat → Prop} {W wr : World} {A : Option Addr} {m c : Nat} {xs : List Value} (h : Src W A m c xs) (hk : Keeps S W wr) (hA : ∀ ad, A = some ad → S ad.block) : Src wr A m c xs :=
  h.moved fun ad j u hA' _ hc => by
    rw [← hc]
    exact World.cell?_of_block (by rw [add_block]; exact hk.block _ (hA ad hA'))
theorem own_int {w : World} {base : Nat} {E : TypeId} {v : Value} {n : Nat} {xs : List Value} (h : w.ownsRow base E 1 v n xs) : ∀ g, v.ownBlock = some g → base ≤ g ∧ g < w.heap.size := by
  intro g hg
  rcases h.2 with ⟨rfl, _⟩ | ⟨g', cap, cur, rfl, hb, hh, _⟩
  · simp [Value.ownBlock] at hg
  · simp [Value.ownBlock] at hg
    subst hg
    exact ⟨hb, lt_heap hh⟩
theorem own_apart {w : World} {b1 b2 : Nat} {E1 E2 : TypeId} {v1 v2 : Value} {n1 n2 : Nat} {x1 x2 : List Value} (h1 : w.ownsRow b1 E1 1 v1 n1 x1) (h2 : w.ownsRow b2 E2 1 v2 n2 x2) (hne : E1 ≠ E2) : v1.ownBlock = none ∨ v1.ownBlock ≠ v2.ownBlock := by
  rcases h1.2 with ⟨rfl, _⟩ | ⟨g1, c1, cur1, rfl, _, hh1, _⟩
  · exact .inl rfl
  · refine .inr ?_
    rcases h2.2 with ⟨rfl, _⟩ | ⟨g2, c2, cur2, rfl, _, hh2, _⟩
    · simp [Value.ownBlock]
    · intro e
      simp [Value.ownBlock] at e
      subst e
      rw [hh1] at hh2
      injection hh2 with hh2
      injection hh2 with _ ht
      exact hne ht
def ints (k : IntKind) (zs : List Int) : List Value := zs.map (Value.int k)
theorem ints_nats (k : IntKind) (xs : List Nat) : nats k xs = ints k (xs.map fun (x : Nat) => (x : Int)) := by simp [ints, nats]
theorem ints_len (k : IntKind) (zs : List Int) : (ints k zs).length = zs.length := by simp [ints]
theorem ints_at (k : IntKind) (zs : List Int) (i : Nat) (h : i < zs.length) : (ints k zs)[i]? = some (.int k (zs.getD i 0)) := by
  unfold ints
  rw [List.getElem?_map, List.getElem?_eq_getElem h, List.getD_eq_getElem?_getD, List.getElem?_eq_getElem h]
  rfl
theorem ints_set (k : IntKind) (zs : List Int) (i : Nat) (z : Int) : (ints k zs).set i (.int k z) = ints k (zs.set i z) := by simp [ints]
theorem ints_snoc (k : IntKind) (zs : List Int) (z : Int) : ints k zs ++ [.int k z] = ints k (zs ++ [z]) := by simp [ints]
theorem strs_set (xs : List ByteArray) (i : Nat) (s : ByteArray) : (strs xs).set i (.string s) = strs (xs.set i s) := by simp [strs]
theorem strs_snoc' (xs : List ByteArray) (s : ByteArray) : strs xs ++ [.string s] = strs (xs ++ [s]) := by simp [strs]
def Off (S : Nat → Prop) (v : Value) : Prop := ∀ g, v.ownBlock = some g → ¬ S g

/-- Three lists of the call's own may be written; what is in S is as it was. -/
def Trio (S : Nat → Prop) (W : World) (vb vd vl : Value) (nb nd nl : Nat) (wr : World) : Prop :=
  Keeps S W wr ∧ (∃ zb, wr.ownsRow 0 51 1 vb nb (ints .u32 zb)) ∧ (∃ zd, wr.ownsRow 0 57 1 vd nd (ints .u64 zd)) ∧ (∃ ts, wr.ownsRow 0 9 1 vl nl (strs ts)) ∧ Off S vb ∧ Off S vd ∧ Off S vl

theorem ownBlock_some (g n c : Nat) : (Value.slice (some ⟨g, 0, none⟩) n c).ownBlock = some g := rfl
theorem trio_set_b {S : Nat → Prop} {W wr : World} {g cap nb nd nl : Nat} {vd vl : Value} (hS : ∀ g, S g → g < W.heap.size) (h : Trio S W (.slice (some ⟨g, 0, none⟩) nb cap) vd vl nb nd nl wr) (k : Nat) (z : Int) : Trio S W (.slice (some ⟨g, 0, none⟩) nb cap) vd vl nb nd nl (wr.setCell ⟨g, k, none⟩ (.int .u32 z)) := by
  obtain ⟨h1, ⟨zb, hb⟩, ⟨zd, hd⟩, ⟨ts, hl⟩, o1, o2, o3⟩ := h
  have hst := hb.stored k (.int .u32 z)
  refine ⟨h1.grown hS hst.2 (fun q hq => o1 q (by rw [ownBlock_some]; exact hq)), ⟨_, by rw [← ints_set]; exact hst.1⟩, ⟨zd, hd.kept hst.2 ?_⟩, ⟨ts, hl.kept hst.2 ?_⟩, o1, o2, o3⟩
  · exact own_apart hd hb (by decide)
  · exact own_apart hl hb (by decide)
theorem trio_set_d {S : Nat → Prop} {W wr : World} {g cap nb nd nl : Nat} {vb vl : Value} (hS : ∀ g, S g → g < W.heap.size) (h : Trio S W vb (.slice (some ⟨g, 0, none⟩) nd cap) vl nb nd nl wr) (k : Nat) (z : Int) : Trio S W vb (.slice (some ⟨g, 0, none⟩) nd cap) vl nb nd nl (wr.setCell ⟨g, k, none⟩ (.int .u64 z)) := by
  obtain ⟨h1, ⟨zb, hb⟩, ⟨zd, hd⟩, ⟨ts, hl⟩, o1, o2, o3⟩ := h
  have hst := hd.stored k (.int .u64 z)
  refine ⟨h1.grown hS hst.2 (fun q hq => o2 q (by rw [ownBlock_some]; exact hq)), ⟨zb, hb.kept hst.2 ?_⟩, ⟨_, by rw [← ints_set]; exact hst.1⟩, ⟨ts, hl.kept hst.2 ?_⟩, o1, o2, o3⟩
  · exact own_apart hb hd (by decide)
  · exact own_apart hl hd (by decide)
theorem trio_set_l {S : Nat → Prop} {W wr : World} {g cap nb nd nl : Nat} {vb vd : Value} (hS : ∀ g, S g → g < W.heap.size) (h : Trio S W vb vd (.slice (some ⟨g, 0, none⟩) nl cap) nb nd nl wr) (k : Nat) (s : ByteArray) : Trio S W vb vd (.slice (some ⟨g, 0, none⟩) nl cap) nb nd nl (wr.setCell ⟨g, k, none⟩ (.string s)) := by
  obtain ⟨h1, ⟨zb, hb⟩, ⟨zd, hd⟩, ⟨ts, hl⟩, o1, o2, o3⟩ := h
  have hst := hl.stored k (.string s)
  refine ⟨h1.grown hS hst.2 (fun q hq => o3 q (by rw [ownBlock_some]; exact hq)), ⟨zb, hb.kept hst.2 ?_⟩, ⟨zd, hd.kept hst.2 ?_⟩, ⟨_, by rw [← strs_set]; exact hst.1⟩, o1, o2, o3⟩
  · exact own_apart hb hl (by decide)
  · exact own_apart hd hl (by decide)
theorem off_new {S : Nat → Prop} {W wr : World} {v v' : Value} (hS : ∀ g, S g → g < W.heap.size) (hz : W.heap.size ≤ wr.heap.size) (ho : Off S v) (h : v'.ownBlock = v.ownBlock ∨ v'.ownBlock = some wr.heap.size) : Off S v' := by
  intro g hg hs
  rcases h with h | h
  · exact ho g (by rw [← h]; exact hg) hs
  · rw [h] at hg
    injection hg with hg
    have := hS g hs
    omega
theorem trio_app_b {S : Nat → Prop} {W wr w' : World} {nb nd nl : Nat} {vb vd vl v' : Value} {o : Obj} (hS : ∀ g, S g → g < W.heap.size) (h : Trio S W vb vd vl nb nd nl wr) (zs : List Int) (hown : w'.ownsRow 0 51 1 v' (nb + 1) (ints .u32 zs)) (hg : (wr.alloc o).grownBy w' vb.ownBlock) (hv : v'.ownBlock = vb.ownBlock ∨ v'.ownBlock = some (wr.alloc o).heap.size) : Trio S W v' vd vl (nb + 1) nd nl w' := by
  obtain ⟨h1, ⟨zb, hb⟩, ⟨zd, hd⟩, ⟨ts, hl⟩, o1, o2, o3⟩ := h
  have hz := h1.size
  refine ⟨(h1.alloc hS o).grown hS hg (fun q hq => o1 q hq), ⟨zs, hown⟩, ⟨zd, (hd.alloc o).kept hg (own_apart hd hb (by decide))⟩, ⟨ts, (hl.alloc o).kept hg (own_apart hl hb (by decide))⟩, off_new (wr := wr.alloc o) hS (by simp; omega) o1 hv, o2, o3⟩
theorem trio_app_d {S : Nat → Prop} {W wr w' : World} {nb nd nl : Nat} {vb vd vl v' : Value} {o : Obj} (hS : ∀ g, S g → g < W.heap.size) (h : Trio S W vb vd vl nb nd nl wr) (zs : List Int) (hown : w'.ownsRow 0 57 1 v' (nd + 1) (ints .u64 zs)) (hg : (wr.alloc o).grownBy w' vd.ownBlock) (hv : v'.ownBlock = vd.ownBlock ∨ v'.ownBlock = some (wr.alloc o).heap.size) : Trio S W vb v' vl nb (nd + 1) nl w' := by
  obtain ⟨h1, ⟨zb, hb⟩, ⟨zd, hd⟩, ⟨ts, hl⟩, o1, o2, o3⟩ := h
  have hz := h1.size
  refine ⟨(h1.alloc hS o).grown hS hg (fun q hq => o2 q hq), ⟨zb, (hb.alloc o).kept hg (own_apart hb hd (by decide))⟩, ⟨zs, hown⟩, ⟨ts, (hl.alloc o).kept hg (own_apart hl hd (by decide))⟩, o1, off_new (wr := wr.alloc o) hS (by simp; omega) o2 hv, o3⟩
theorem trio_app_l {S : Nat → Prop} {W wr w' : World} {nb nd nl : Nat} {vb vd vl v' : Value} {o : Obj} (hS : ∀ g, S g → g < W.heap.size) (h : Trio S W vb vd vl nb nd nl wr) (zs : List ByteArray) (hown : w'.ownsRow 0 9 1 v' (nl + 1) (strs zs)) (hg : (wr.alloc o).grownBy w' vl.ownBlock) (hv : v'.ownBlock = vl.ownBlock ∨ v'.ownBlock = some (wr.alloc o).heap.size) : Trio S W vb vd v' nb nd (nl + 1) w' := by
  obtain ⟨h1, ⟨zb, hb⟩, ⟨zd, hd⟩, ⟨ts, hl⟩, o1, o2, o3⟩ := h
  have hz := h1.size
  refine ⟨(h1.alloc hS o).grown hS hg (fun q hq => o3 q hq), ⟨zb, (hb.alloc o).kept hg (own_apart hb hl (by decide))⟩, ⟨zd, (hd.alloc o).kept hg (own_apart hd hl (by decide))⟩, ⟨zs, hown⟩, o1, o2, off_new (wr := wr.alloc o) hS (by simp; omega) o3 hv⟩

theorem wpList_append_src_at {P : Program} {w : World} {ops : Array Oper} {rest : List Oper} {o : Oper} {a : Act} {Q : Exit → Act → World → Prop} (hgd : o.guard = none) (s x : Operand) (t : TypeId)
    (ho : o.op = .call { callee := .builtin .append, args := #[s, x], argTypes := #[t, t] })
    (base : Nat) (e : TypeId) (z : Value) (bytes : Nat) (ht : P.underlying t = some (.slice e)) (hinfo : (P.info? e).map (fun i => (i.zero, i.size, i.bytes)) = some (some z, 1, bytes)) (hzs : z.cells.size = 1)
    (v : Value) (n : Nat) (xs : List Value) (hs : a.eval s = v) (hown : w.ownsRow base e 1 v n xs)
    (A : Option Addr) (m c : Nat) (news : List Value) (hx : a.eval x = .slice A m c) (hsrc : Src w A m c news) (h1 : ∀ u ∈ news, u.oneCell' = true)
    (h63 : n + m ≤ 140737488355328) (hbytes : (n + m) * bytes ≤ 140737488355328) (hbase : base ≤ w.heap.size)
    (h : ∀ v' w', w'.ownsRow base e 1 v' (n + m) (xs ++ news) → w.grownBy w' v.ownBlock → (v'.ownBlock = v.ownBlock ∨ v'.ownBlock = some w.heap.size) → wpList P ops Q rest (a.put o.dst v') w') : wpList P ops Q (o :: rest) a w := by
  obtain ⟨i, hi, hz, hz1, hz2⟩ := info_parts hinfo
  rcases hsrc with ⟨rfl, rfl, rfl, rfl⟩ | ⟨ad, rfl, hl, hc⟩
  · exact wpList_append_own_none hgd s x t ho base e i 1 ht hi v n xs hs hown hx (h v w (by simpa using hown) (World.grownBy.refl w _) (.inl rfl))
  · exact wpList_append_own_at w hgd s x t ho base e i z 1 bytes ht hi hz hz1 hz2 hzs (by omega) v n xs hs hown ad m c news hx (by omega) hc h1 (by unfold maxLen; omega) hbytes hbase (fun v' w' h2 h3 _ h5 => h v' w' h2 h3 h5)
/-- What one call made lies between two ends of memory. -/
theorem made_src {E : TypeId} {xs : List Value} {w W : World} {A : Option Addr} {n c : Nat} {base : Nat} (ho : w.ownsRow base E 1 (.slice A n c) n xs) (hb : Below w.heap.size w W) : Src W A n c xs ∧ ∀ ad, A = some ad → base ≤ ad.block ∧ ad.block < w.heap.size := by
  have hi := own_int ho
  obtain ⟨A', c', hv, hs⟩ := own_src (own_below ho hb (Nat.le_refl _))
  injection hv with h1 _ h3
  subst h1 h3
  refine ⟨hs, fun ad hA => ?_⟩
  subst hA
  rcases ho.2 with ⟨h0, _⟩ | ⟨g, cap, cur, hv, _⟩
  · simp at h0
  · injection hv with h1 _ _
    injection h1 with h1
    subst h1
    exact hi g rfl
end Go.Proofs.YtomhfmcmjcghoaaGreatDoor.Cl
