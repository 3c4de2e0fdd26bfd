/- Marks and middles of both sides at every list; lists that are written over place by place: what the law SensorZones wants. -/
import Derived.Test.YtjpimamjcckieaaDoorSeX
import Derived.Test.YtjpimamjcckieaaDoorSeU
import Derived.Test.YtjpimamjcckieaaDoorSeV
namespace Go.Proofs.YtjpimamjcckieaaDoor.Se
open Go.ChangeShapes Go.WideShapes Go.ChangeAt Go.RowKit Own Ro

def zoneOf (xs : List Int) (deg : Int) : Option Nat := if 64 < xs.length then none else zr xs deg xs.length
def medOf (L : List Int) : Value := if L.length < 1 ∨ 4096 < L.length then .tuple #[.int .i8 0, .int .i64 1] else .tuple #[.int .i8 (Pq.midV L), .int .i64 0]
theorem zone_all (A : Option Addr) (c n : Nat) (xs : List Int) (deg : Int) (w : World) (hn : n = xs.length) (hs : CellsIn w 1 A n (i8s xs)) :
    Calls Tryd.prog 5 #[.slice A n c, .int .i8 deg] w (fun e w' => e = .returned (zoneV (zoneOf xs deg)) ∧ w' = w) := by
  unfold zoneOf
  by_cases h : 64 < xs.length
  · rw [if_pos h]
    exact zone_bad A c n deg w (by omega)
  · rw [if_neg h, ← hn]
    exact zone_any A c n xs deg w hn (by omega) hs
theorem median_all (A : Option Addr) (c n : Nat) (L : List Int) (w : World) (hn : n = L.length) (hs : CellsIn w 1 A n (i8s L)) :
    Calls Tryd.prog 6 #[.slice A n c] w fun e w' => e = .returned (medOf L) ∧ Below w.heap.size w w' := by
  unfold medOf
  by_cases h : L.length < 1 ∨ 4096 < L.length
  · rw [if_pos h]
    refine (Pq.medianBad_any A c n w (by omega)).mono ?_
    rintro e w' ⟨rfl, rfl⟩
    exact ⟨rfl, Below.refl _ _⟩
  · rw [if_neg h]
    exact Pq.medianOk_any A c n L w hn (by omega) (by omega) hs
/-- The first k of them turned by f, the rest as they were. -/
def upd (f : Nat → Int → Int) (l : List Int) (k : Nat) : List Int := (l.take k).mapIdx f ++ l.drop k
theorem upd_len {f : Nat → Int → Int} {l : List Int} {k : Nat} : (upd f l k).length = l.length := by unfold upd; simp; omega
theorem upd_zero {f : Nat → Int → Int} {l : List Int} : upd f l 0 = l := by simp [upd]
theorem upd_at {f : Nat → Int → Int} {l : List Int} {k : Nat} (h : k < l.length) : (upd f l k)[k]! = l[k]! := by
  have hl : ((l.take k).mapIdx f).length = k := by simp; omega
  rw [getElem!_pos _ k (by rw [upd_len]; exact h), getElem!_pos l k h]
  unfold upd
  rw [List.getElem_append_right (by omega)]
  simp only [hl, List.getElem_drop, Nat.sub_self, Nat.add_zero]
theorem upd_set {f : Nat → Int → Int} {l : List Int} {k : Nat} (h : k < l.length) : (upd f l k).set k (f k l[k]!) = upd f l (k + 1) := by
  have hl : ((l.take k).mapIdx f).length = k := by simp; omega
  unfold upd
  rw [List.set_append_right _ _ (by omega), hl, Nat.sub_self, List.take_add_one, List.getElem?_eq_getElem h, List.drop_eq_getElem_cons h, getElem!_pos l k h]
  simp only [Option.toList_some, List.mapIdx_append, List.mapIdx_cons, List.mapIdx_nil, List.set_cons_zero, List.append_assoc, List.cons_append, List.nil_append]
  have hk : (l.take k).length = k := by rw [List.length_take]; omega
  simp [hk]
theorem i8s_len {l : List Int} : (i8s l).length = l.length := by simp [i8s]
theorem put77 {l : List Int} {k : Nat} {v : Int} (h : k < l.length) : (i8s l ++ [Value.int .i8 77]).set k (.int .i8 v) = i8s (l.set k v) ++ [Value.int .i8 77] := by
  rw [List.set_append_left _ _ (by rw [i8s_len]; exact h)]
  unfold i8s
  rw [List.map_set]
theorem at77 {l : List Int} {k : Nat} (h : k < l.length) : (i8s l ++ [Value.int .i8 77])[k]? = some (.int .i8 l[k]!) := by
  rw [List.getElem?_append_left (by rw [i8s_len]; exact h)]
  unfold i8s
  rw [List.getElem?_map, List.getElem?_eq_getElem h, getElem!_pos l k h]
  rfl
theorem end77 {l : List Int} : (i8s l ++ [Value.int .i8 77])[l.length]? = some (.int .i8 77) := by
  rw [List.getElem?_append_right (by rw [i8s_len]; exact Nat.le_refl _), i8s_len, Nat.sub_self]
  rfl
end Go.Proofs.YtjpimamjcckieaaDoor.Se
